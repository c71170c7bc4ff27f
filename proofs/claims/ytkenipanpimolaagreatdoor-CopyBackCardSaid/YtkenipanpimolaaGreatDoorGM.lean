/- Texts of mine, joined: N0 N1 N2 N3 N4 N5 N6 N7 N8. What each says and under which conditions stands at its head, below. -/
import Derived.Test.YtkenipanpimolaaGreatDoorGG
import Derived.Test.YtkenipanpimolaaGreatDoorGL
import Derived.Test.YtkenipanpimolaaGreatDoorGR
/- The chains of packages word, mem, walk, pick and palloc together. -/
namespace Go.Proofs.YtkenipanpimolaaGreatDoor
end Go.Proofs.YtkenipanpimolaaGreatDoor

/- A manager of page tables in memory; its set of roots; the contracts of package ptable's get, put, give, places. Condition: the manager lies as New laid it; the listed tables read as laid. -/
namespace Go.Proofs.YtkenipanpimolaaGreatDoor
open Go.RowKit Go.Maps
set_option maxRecDepth 100000

/-- What stands at a place of a table; zero, if nothing does that may be. -/
def getE (n : Nat) (L : List Int) (f q : Int) : Ent := (entAt n L f q).getD z0
theorem getE_some {n : Nat} {L : List Int} {f q : Int} {e : Ent} (h : entAt n L f q = some e) : getE n L f q = e := by simp [getE, h]
theorem getE_none {n : Nat} {L : List Int} {f q : Int} (h : entAt n L f q = none) : getE n L f q = z0 := by simp [getE, h]
theorem getE_low (n : Nat) (L : List Int) (f q : Int) (hn : 0 < n) : 0 ≤ (getE n L f q).2.2.2 ∧ (getE n L f q).2.2.2 < n := by
  cases h : entAt n L f q with
  | none => rw [getE_none h]; exact ⟨by decide, by simp [z0]; omega⟩
  | some e => rw [getE_some h]; obtain ⟨_, h2, h3⟩ := entAt_some h; exact ⟨(decode_low h2).1, h3⟩

/-- The set of roots. -/
def isSp (S : Nat → Bool) (x : Int) : Bool := decide (0 ≤ x) && S x.toNat
def updS (S : Nat → Bool) (x : Nat) (v : Bool) : Nat → Bool := fun y => if y = x then v else S y
theorem isSp_upd (S : Nat → Bool) (x : Nat) (v : Bool) (y : Int) : isSp (updS S x v) y = if y = (x : Int) then v else isSp S y := by
  unfold isSp updS
  by_cases h0 : 0 ≤ y
  · obtain ⟨y, rfl⟩ := Int.eq_ofNat_of_zero_le h0
    by_cases e : y = x
    · subst e; simp
    · have : ¬ ((y : Int) = (x : Int)) := by omega
      simp [e, this]
  · have : ¬ (y = (x : Int)) := by omega
    simp [h0, this]
structure SetHas (D : DataW Unit) (S : Nat → Bool) : Prop where
  at_ : ∀ x : Int, Maps.has D (.int .i64 x) = isSp S x
  frames : Frames D
theorem SetHas.empty : SetHas (.map []) (fun _ => false) := ⟨fun x => by simp [isSp]; rfl, [], rfl, List.Pairwise.nil, fun p hp => by simp at hp⟩
theorem SetHas.put {D : DataW Unit} {S : Nat → Bool} (h : SetHas D S) (x : Nat) (hx : x < 1024) (d : DataW Unit) : SetHas (D.put (.int .i64 (x : Int)) d) (updS S x true) :=
  ⟨fun y => by
    rw [isSp_upd]
    by_cases e : y = (x : Int)
    · subst e; rw [if_pos rfl, has_put_same h.frames.isMap (isKeyI _ (by omega))]
    · rw [if_neg e, has_put_other (lit_ne e), h.at_], h.frames.put x hx _⟩
def SpcAt (w : World) (b : Nat) (S : Nat → Bool) : Prop := ∃ (D : DataW Unit) (k : Nat), w.ownsMap Tryz.prog 3 unitElem b k D ∧ k ≤ 1024 ∧ SetHas D S
theorem spc_tight {w : World} {b k : Nat} {D : DataW Unit} (h : w.ownsMap Tryz.prog 3 unitElem b k D) (m : Nat) (hm : Maps.size D ≤ m) : w.ownsMap Tryz.prog 3 unitElem b m D := by
  obtain ⟨es, clock, hb, F, _, rfl⟩ := h
  refine ⟨es, clock, hb, F, ?_, rfl⟩
  simpa [Maps.size, length_sorted] using hm
theorem SpcAt.made (w : World) : SpcAt (w.alloc (.map #[] 0)) w.heap.size (fun _ => false) := ⟨_, 0, World.ownsMap_made _ _ _ _, by omega, SetHas.empty⟩
theorem SpcAt.isMap {w : World} {b : Nat} {S : Nat → Bool} (h : SpcAt w b S) : ∃ es clock, w.heap[b]? = some (.map es clock) := by
  obtain ⟨D, k, ⟨es, clock, hb, _⟩, _⟩ := h
  exact ⟨es, clock, hb⟩
theorem SpcAt.lt {w : World} {b : Nat} {S : Nat → Bool} (h : SpcAt w b S) : b < w.heap.size := by
  obtain ⟨es, clock, hb⟩ := h.isMap
  exact lt_of_block hb
theorem SpcAt.same {w w' : World} {b : Nat} {S : Nat → Bool} (h : SpcAt w b S) (e : w'.heap[b]? = w.heap[b]?) : SpcAt w' b S := by
  obtain ⟨D, k, ⟨es, clock, hb, r⟩, hk, hr⟩ := h
  exact ⟨D, k, ⟨es, clock, e.trans hb, r⟩, hk, hr⟩
theorem zeroUnit (w : World) : (zeroValue 204).run Tryz.prog w = .ok (.agg #[]) w := by kernel_rfl
section
variable (w : World) {ops : Array Oper} {rest : List Oper} {o : Oper} {a : Act} {Q : Exit → Act → World → Prop}
theorem wpList_spc_put (hg : o.guard = none) (m x v : Operand) (hop : o.op = Op.mapUpdate 151 m x v) (b : Nat) (S : Nat → Bool) (hm : a.eval m = .map (some b)) (h : SpcAt w b S) (y : Nat) (hx : a.eval x = .int .i64 (y : Int)) (hy : y < 1024) (hv : a.eval v = .agg #[])
    (hK : ∀ w', SpcAt w' b (updS S y true) → w.grownBy w' (some b) → wpList Tryz.prog ops Q rest (a.put o.dst undef) w') : wpList Tryz.prog ops Q (o :: rest) a w := by
  obtain ⟨D, k, hown, hk, hr⟩ := h
  refine wpList_mapUpdate_own _ hg m x v 151 hop 3 204 keyI Tryz.underlying151 _ b k D hm hown (by unfold maxLen; omega) (.int .i64 (y : Int)) (.agg #[]) (.int .i64 (y : Int)) hx hv (keyOfI _ (by omega)) (.agg []) [] unitElem_mk fun w' h1 h2 => ?_
  have hr' := hr.put y hy (.agg [])
  exact hK w' ⟨_, 1024, spc_tight h1 1024 hr'.frames.size, Nat.le_refl _, hr'⟩ h2
end

/-- A manager of the first partition's tables, of a law's own. -/
structure Mg (W w : World) (tb sb : Nat) (X : PIx) (L : List Int) (R : Nat → Nat) (S : Nat → Bool) : Prop where
  own : OwnPool W w X L R
  lw : LaidW W
  wd : Words L
  box : w.heap[tb]? = some (.cells #[.pointer (some ⟨X.mp, 0, none⟩), .pointer (some ⟨X.pb, 0, none⟩), .int .i64 0, .map (some sb)] 153 (0, 0))
  spc : SpcAt w sb S
  nt : W.heap.size ≤ tb
  ns : W.heap.size ≤ sb
  ne : sb ≠ X.mb
  low : ∀ x, S x = true → x < X.n
theorem Mg.step {W w w' : World} {tb sb : Nat} {X : PIx} {L : List Int} {R : Nat → Nat} {S : Nat → Bool} (h : Mg W w tb sb X L R S) (k : Below w.heap.size w w') : Mg W w' tb sb X L R S :=
  ⟨h.own.step k, h.lw, h.wd, below_block k h.box, h.spc.same (k.block _ h.spc.lt), h.nt, h.ns, h.ne, h.low⟩
theorem Mg.tabW {W w : World} {tb sb : Nat} {X : PIx} {L : List Int} {R : Nat → Nat} {S : Nat → Bool} (h : Mg W w tb sb X L R S) : LaidW w := h.lw.below h.own.below
theorem Mg.c0 {W w : World} {tb sb : Nat} {X : PIx} {L : List Int} {R : Nat → Nat} {S : Nat → Bool} (h : Mg W w tb sb X L R S) : w.cell? ⟨tb, 0, none⟩ = some (.pointer (some ⟨X.mp, 0, none⟩)) := by rw [cell_of_row w _ _ _ _ _ h.box]; rfl
theorem Mg.c1 {W w : World} {tb sb : Nat} {X : PIx} {L : List Int} {R : Nat → Nat} {S : Nat → Bool} (h : Mg W w tb sb X L R S) : w.cell? ⟨tb, 1, none⟩ = some (.pointer (some ⟨X.pb, 0, none⟩)) := by rw [cell_of_row w _ _ _ _ _ h.box]; rfl
theorem Mg.c2 {W w : World} {tb sb : Nat} {X : PIx} {L : List Int} {R : Nat → Nat} {S : Nat → Bool} (h : Mg W w tb sb X L R S) : w.cell? ⟨tb, 2, none⟩ = some (.int .i64 0) := by rw [cell_of_row w _ _ _ _ _ h.box]; rfl
theorem Mg.c3 {W w : World} {tb sb : Nat} {X : PIx} {L : List Int} {R : Nat → Nat} {S : Nat → Bool} (h : Mg W w tb sb X L R S) : w.cell? ⟨tb, 3, none⟩ = some (.map (some sb)) := by rw [cell_of_row w _ _ _ _ _ h.box]; rfl
/-- What calls may change. -/
def mgB (X : PIx) (sb : Nat) (k : Nat) : Prop := X.blocks k ∨ k = sb
/-- The set of roots is none of the pool's. -/
theorem Mg.sbOut {W w : World} {tb sb : Nat} {X : PIx} {L : List Int} {R : Nat → Nat} {S : Nat → Bool} (h : Mg W w tb sb X L R S) : ¬ X.all sb := fun hk => by
  obtain ⟨es, ck, hm⟩ := h.spc.isMap
  rcases hk with (e | e | e) | e | e | e
  · have := h.own.st.mem.row; rw [← e, hm] at this; cases this
  · exact h.ne e
  · obtain ⟨t, ht, e2⟩ := List.mem_map.1 e
    obtain ⟨i, hi, e3⟩ := List.getElem_of_mem ht
    have := (h.own.st.sets i hi).box
    rw [List.getD_eq_getElem?_getD, List.getElem?_eq_getElem hi, Option.getD_some, e3, e2, hm] at this
    cases this
  · have := h.own.st.box; rw [← e, hm] at this; cases this
  · have := h.own.st.mem.box; rw [← e, hm] at this; cases this
  · obtain ⟨cs, hcs⟩ := own_block h.own.st.parts e
    rw [hm] at hcs; cases hcs
theorem Mg.tbOut {W w : World} {tb sb : Nat} {X : PIx} {L : List Int} {R : Nat → Nat} {S : Nat → Bool} (h : Mg W w tb sb X L R S) : ¬ X.all tb ∧ tb ≠ sb := by
  refine ⟨h.own.st.other h.box ⟨by decide, by decide, by decide, by decide, by decide⟩, fun e => ?_⟩
  obtain ⟨es, ck, hm⟩ := h.spc.isMap
  have := h.box; rw [e, hm] at this; cases this
/-- What a call leaves. -/
structure Went (W w w' : World) (tb sb : Nat) (X : PIx) (L : List Int) (R : Nat → Nat) (S : Nat → Bool) : Prop where
  st : Mg W w' tb sb X L R S
  only : Only w w' (mgB X sb)
theorem Went.stay {W w w' : World} {tb sb : Nat} {X : PIx} {L : List Int} {R : Nat → Nat} {S : Nat → Bool} (h : Mg W w tb sb X L R S) (k : Below w.heap.size w w') : Went W w w' tb sb X L R S := ⟨h.step k, Only.below k⟩
theorem Went.next {W w w1 w' : World} {tb sb : Nat} {X : PIx} {L L' : List Int} {R R' : Nat → Nat} {S S' : Nat → Bool} (h : Went W w w1 tb sb X L R S) (k : Went W w1 w' tb sb X L' R' S') : Went W w w' tb sb X L' R' S' := ⟨k.st, h.only.trans k.only⟩
theorem Mg.move {W w w' : World} {tb sb : Nat} {X : PIx} {L L' : List Int} {R R' : Nat → Nat} {S : Nat → Bool} (h : Mg W w tb sb X L R S) (k : Moves w w' X L' R') (hw : Words L') : Went W w w' tb sb X L' R' S :=
  ⟨⟨h.own.move k, h.lw, hw, k.only.kept h.box (fun e => h.tbOut.1 (Or.inl e)), h.spc.same (k.only.block _ h.spc.lt (fun e => h.sbOut (Or.inl e))), h.nt, h.ns, h.ne, h.low⟩, k.only.mono fun _ e => Or.inl e⟩
theorem Mg.turn {W w w' : World} {tb sb : Nat} {X : PIx} {L : List Int} {R : Nat → Nat} {S S' : Nat → Bool} (h : Mg W w tb sb X L R S) (k : SpcAt w' sb S') (hg : w.grownBy w' (some sb)) (hl : ∀ x, S' x = true → x < X.n) : Went W w w' tb sb X L R S' := by
  have ho : Only w w' (fun k => k = sb) := Only.grown hg rfl
  refine ⟨⟨⟨h.own.st.kept ho (fun k hk e => h.sbOut (e ▸ hk)), ho.old h.own.below h.own.below.size (fun k e => e ▸ h.ns), h.own.new, h.own.laid⟩, h.lw, h.wd, ho.kept h.box h.tbOut.2, k, h.nt, h.ns, h.ne, hl⟩, ho.mono fun _ e => Or.inr e⟩

theorem places_ok (p : Int) (w : World) (h0 : 0 ≤ p) (h1 : p < 1024) : Calls Tryz.prog 136 #[.int .i64 p] w fun e w' => e = .returned (.tuple #[.int .i64 (p / 32), .int .i64 (p % 32)]) ∧ w = w' := by
  have h2 : p.tdiv 32 = p / 32 := Int.tdiv_eq_ediv_of_nonneg h0
  have h3 : p.tmod 32 = p % 32 := Int.tmod_eq_emod_of_nonneg h0
  have b1 : 0 ≤ p / 32 := by omega
  have b2 : p / 32 < 1024 := by omega
  have b3 : 0 ≤ p % 32 := by omega
  have b4 : p % 32 < 32 := by omega
  go_enter Tryz.func136, Tryz.ntmps136
  go_wp2
  go_ret2
  exact ⟨rfl, rfl⟩
end Go.Proofs.YtkenipanpimolaaGreatDoor

/- The contracts of package ptable's get, put, give. Condition: the manager lies as New laid it; the listed tables read as laid. -/
namespace Go.Proofs.YtkenipanpimolaaGreatDoor
open Go.RowKit Go.Maps
set_option maxRecDepth 100000

def zeroEnt : Obj := .cells #[.bool false, .bool false, .bool false, .int .i64 0] 166 (0, 0)
set_option maxHeartbeats 1000000 in
theorem get_raw (tb mp fb n : Nat) (f q a k1 k2 : Int) (p x c : Bool) (g : Int) (far : Bool) (w : World) (hc : w.cell? ⟨tb, 0, none⟩ = some (.pointer (some ⟨mp, 0, none⟩))) (hm : w.cell? ⟨mp, 0, none⟩ = some (.slice (some ⟨fb, 0, none⟩) n n)) (hf : decide ((n : Int) ≤ g) = far)
    (hr : ∀ W, Below w.heap.size w W → Calls Tryz.prog 64 #[.pointer (some ⟨mp, 0, none⟩), .int .i64 f, .int .i64 q] W fun e w' => e = .returned (.tuple #[.int .u32 a, .int .i64 k1]) ∧ Below W.heap.size W w')
    (hg : ∀ W, Below w.heap.size w W → Calls Tryz.prog 171 #[.int .u32 a] W fun e w' => e = .returned (.tuple #[ent p x c g, .int .i64 k2]) ∧ Below W.heap.size W w') :
    Calls Tryz.prog 156 #[.pointer (some ⟨tb, 0, none⟩), .int .i64 f, .int .i64 q] w fun e w' => e = .returned (if far then entV z0 else ent p x c g) ∧ Below w.heap.size w w' := by
  have HM := Lib.hid hm
  have HC := Lib.hid hc
  have HR := Lib.hid hr
  have HG := Lib.hid hg
  clear hm hr hg
  have c0 : (w.alloc (.cells #[.bool false, .bool false, .bool false, .int .i64 0] 166)).cell? ⟨tb, 0, none⟩ = some (.pointer (some ⟨mp, 0, none⟩)) := (((Below.refl w.heap.size w).alloc (Nat.le_refl _) _).cell (p := ⟨tb, 0, none⟩) (block_lt_of_cell hc)).trans hc
  go_enter Tryz.func156, Tryz.ntmps156
  go_wp2_with fail
  obtain ⟨w0, hw0⟩ : ∃ w0, w0 = w.alloc (.cells #[.bool false, .bool false, .bool false, .int .i64 0] 166) := ⟨_, rfl⟩
  have B0 : Hid (Below w.heap.size w w0) := Lib.hid (by rw [hw0]; exact (Below.refl _ _).alloc (Nat.le_refl _) _)
  have R0 : Hid (w0.heap[w.heap.size]? = some zeroEnt) := Lib.hid (by rw [hw0]; exact heap_alloc_new w _)
  rw [← hw0]
  clear hw0 hc c0
  refine (HR.out _ (by exact B0.out)).mono ?_
  rintro e w1 ⟨rfl, hb⟩
  have B1 := Lib.hid (B0.out.trans (hb.mono B0.out.size))
  have R1 := Lib.hid (below_block hb R0.out)
  clear hb
  go_wp2_with fail
  refine (HG.out _ (by exact B1.out)).mono ?_
  rintro e w2 ⟨rfl, hb⟩
  have B2 := Lib.hid (B1.out.trans (hb.mono B1.out.size))
  have R2 := Lib.hid (below_block hb R1.out)
  clear hb
  go_wp2_with fail
  obtain ⟨w3, hw3⟩ : ∃ w3, w3 = w2.alloc (.cells #[.bool p, .bool x, .bool c, .int .i64 g] 166) := ⟨_, rfl⟩
  have A3 : Hid (Below w2.heap.size w2 w3) := Lib.hid (by rw [hw3]; exact (Below.refl _ _).alloc (Nat.le_refl _) _)
  have hne : w2.heap.size ≠ w.heap.size := fun e => by have := lt_of_block R2.out; omega
  have E3 := box4 (show w3.heap[w2.heap.size]? = some (.cells #[.bool p, .bool x, .bool c, .int .i64 g] 166 (0, 0)) by rw [hw3]; exact heap_alloc_new w2 _)
  rw [← hw3]
  clear hw3
  have B3 := Lib.hid (B2.out.trans (A3.out.mono B2.out.size))
  have R3 := Lib.hid (below_block A3.out R2.out)
  obtain ⟨r0, r1, r2, r3, rf⟩ := box4 R3.out
  have f0 := rf 0
  have f1 := rf 1
  have f2 := rf 2
  have f3 := rf 3
  have c0 := (B3.out.cell (p := ⟨tb, 0, none⟩) (block_lt_of_cell HC.out)).trans HC.out
  obtain ⟨e0, e1, e2, e3, ef⟩ := E3
  clear rf ef
  have HM3 : Hid (w3.cell? ⟨mp, 0, none⟩ = some (.slice (some ⟨fb, 0, none⟩) n n)) := Lib.hid ((B3.out.cell (p := ⟨mp, 0, none⟩) (block_lt_of_cell HM.out)).trans HM.out)
  cases far with
  | true =>
    go_quiet ((go_at_call 30; exact Calls.quiet_of_same ((frames_some _ _ _ _ _ (by exact HM3.out)).mono fun _ _ h => ⟨h.1, h.2.symm⟩)))
    go_wp2
    exact bodyPost_ret (v := ent false false false 0) (by simp [results, Tryz.results156, go_sem, r0, r1, r2, r3]) rfl ⟨rfl, below_four (below_drewN B3.out _) _ _ _ _⟩
  | false =>
    go_quiet ((go_at_call 30; exact Calls.quiet_of_same ((frames_some _ _ _ _ _ (by exact HM3.out)).mono fun _ _ h => ⟨h.1, h.2.symm⟩)))
    go_wp2
    exact bodyPost_ret (v := ent p x c g) (by simp [results, Tryz.results156, go_sem, r0, r1, r2, r3]) rfl ⟨rfl, below_four (below_drewN B3.out _) _ _ _ _⟩

theorem decode_zero : decode 0 = some z0 := by decide
theorem get_any {W w : World} {tb sb : Nat} {X : PIx} {L : List Int} {R : Nat → Nat} {S : Nat → Bool} (h : Mg W w tb sb X L R S) (f q : Int) :
    Calls Tryz.prog 156 #[.pointer (some ⟨tb, 0, none⟩), .int .i64 f, .int .i64 q] w fun e w' => e = .returned (entV (getE X.n L f q)) ∧ Below w.heap.size w w' := by
  have hm := h.own.st.mem
  have hL := h.tabW
  have hn : ¬ ((X.n : Int) ≤ 0) := by have := hm.pos; omega
  cases he : entAt X.n L f q with
  | some e =>
    obtain ⟨p, x, c, g⟩ := e
    obtain ⟨h1, h2, h3⟩ := entAt_some he
    rw [getE_some he]
    exact get_raw tb X.mp X.fb X.n f q _ 0 0 p x c g false w h.c0 hm.cellM (decide_eq_false (by simp only at h3; omega)) (fun W hb => read_i X.mp X.fb X.n L f q W (hm.below hb) h1) (fun W hb => get_some _ _ W (h.wd _).1 (h.wd _).2 h2 (hL.below hb))
  | none =>
    rw [getE_none he]
    rcases entAt_none he with h1 | ⟨h1, h2⟩ | ⟨h1, ⟨p, x, c, g⟩, h2, h3⟩
    · exact get_raw tb X.mp X.fb X.n f q 0 2 0 false false false 0 false w h.c0 hm.cellM (decide_eq_false hn) (fun W hb => read_bad X.mp X.fb X.n L f q W (hm.below hb) h1) (fun W hb => get_some _ _ W (by decide) (by decide) decode_zero (hL.below hb))
    · exact get_raw tb X.mp X.fb X.n f q _ 0 6 false false false 0 false w h.c0 hm.cellM (decide_eq_false hn) (fun W hb => read_i X.mp X.fb X.n L f q W (hm.below hb) h1) (fun W hb => get_none _ W (h.wd _).1 (h.wd _).2 h2 (hL.below hb))
    · exact get_raw tb X.mp X.fb X.n f q _ 0 0 p x c g true w h.c0 hm.cellM (decide_eq_true h3) (fun W hb => read_i X.mp X.fb X.n L f q W (hm.below hb) h1) (fun W hb => get_some _ _ W (h.wd _).1 (h.wd _).2 h2 (hL.below hb))

theorem wordOf_ok (p x c : Bool) (g : Int) (h : okE p x c g = true) : 0 ≤ wordOf p x c g ∧ wordOf p x c g < 4294967296 := by
  obtain ⟨h1, h2, _⟩ := okE_low h
  unfold wordOf
  have := bit_lo p; have := bit_hi p; have := bit_lo x; have := bit_hi x; have := bit_lo c; have := bit_hi c
  omega
theorem getD_setI (L : List Int) (i j : Nat) (v : Int) (hi : i < L.length) : (L.set i v).getD j 0 = if j = i then v else L.getD j 0 := by
  simp only [List.getD_eq_getElem?_getD, List.getElem?_set]
  by_cases e : i = j
  · subst e; simp [hi]
  · have : ¬ j = i := fun h => e h.symm
    simp [e, this]
theorem words_set {L : List Int} (h : Words L) (i : Nat) (v : Int) (hi : i < L.length) (hv : 0 ≤ v ∧ v < 4294967296) : Words (L.set i v) := fun j => by
  rw [getD_setI _ _ _ _ hi]
  split
  · exact hv
  · exact h j
/-- The word at a place. -/
def putT (L : List Int) (f q : Nat) (e : Ent) : List Int := L.set (f * 32 + q) (wordOf e.1 e.2.1 e.2.2.1 e.2.2.2)
set_option maxHeartbeats 1000000 in
theorem put_ok {W w : World} {tb sb : Nat} {X : PIx} {L : List Int} {R : Nat → Nat} {S : Nat → Bool} (h : Mg W w tb sb X L R S) (f q : Nat) (p x c : Bool) (g : Int) (hf : f < X.n) (hq : q < 32) (hok : okE p x c g = true) :
    Calls Tryz.prog 137 #[.pointer (some ⟨tb, 0, none⟩), .int .i64 (f : Int), .int .i64 (q : Int), ent p x c g] w fun e w' => e = .returned (.tuple #[]) ∧ Went W w w' tb sb X (putT L f q (p, x, c, g)) R S := by
  have H := Lib.hid h
  have OK := Lib.hid hok
  have hw := Lib.hid (wordOf_ok p x c g hok)
  clear h hok
  obtain ⟨v, hv⟩ : ∃ v, v = wordOf p x c g := ⟨_, rfl⟩
  have HV := Lib.hid hv
  have PUT : Hid (∀ W', LaidW W' → Calls Tryz.prog 158 #[ent p x c g] W' fun e w' => e = .returned (.tuple #[.int .u32 v, .int .i64 0]) ∧ Below W'.heap.size W' w') := Lib.hid fun W' hL => by rw [hv]; exact put_yes p x c g W' OK.out hL
  clear hv
  go_enter Tryz.func137, Tryz.ntmps137
  go_wp2_with fail
  obtain ⟨w0, hw0⟩ : ∃ w0, w0 = w.alloc (.cells #[.bool p, .bool x, .bool c, .int .i64 g] 166) := ⟨_, rfl⟩
  have B0 : Hid (Below w.heap.size w w0) := Lib.hid (by rw [hw0]; exact (Below.refl _ _).alloc (Nat.le_refl _) _)
  rw [← hw0]
  clear hw0
  have H0 := Lib.hid (H.out.step B0.out)
  refine (PUT.out _ H0.out.tabW).mono ?_
  rintro e w1 ⟨rfl, hb⟩
  have B1 := Lib.hid (B0.out.trans (hb.mono B0.out.size))
  have H1 := Lib.hid (H0.out.step hb)
  have c0 := H1.out.c0
  clear hb
  go_wp2_with fail
  refine (write_ok X.mp X.fb X.n f q L v _ H1.out.own.st.mem hf hq).mono ?_
  rintro e w2 ⟨rfl, hp⟩
  have T := Lib.hid (H1.out.move (L' := putT L f q (p, x, c, g)) (R' := R) ⟨(H1.out.own.st.toG.mem_ (by rw [putT, ← HV.out]; exact hp)).toAt H1.out.own.st.fit (fun _ _ => rfl), Only.grown hp.grown (Or.inl rfl)⟩ (words_set H1.out.wd _ _ (by rw [H1.out.own.st.mem.len]; omega) hw.out))
  clear hp c0
  go_wp2
  go_end0
  exact ⟨rfl, (Went.stay H.out B1.out).next T.out⟩
/-- .. at numbers that may be below 0. -/
def putI (L : List Int) (f q : Int) (e : Ent) : List Int := putT L f.toNat q.toNat e
theorem put_i {W w : World} {tb sb : Nat} {X : PIx} {L : List Int} {R : Nat → Nat} {S : Nat → Bool} (h : Mg W w tb sb X L R S) (f q : Int) (p x c : Bool) (g : Int) (hk : okFQ X.n f q) (hok : okE p x c g = true) :
    Calls Tryz.prog 137 #[.pointer (some ⟨tb, 0, none⟩), .int .i64 f, .int .i64 q, ent p x c g] w fun e w' => e = .returned (.tuple #[]) ∧ Went W w w' tb sb X (putI L f q (p, x, c, g)) R S := by
  obtain ⟨h1, h2, h3, h4⟩ := hk
  obtain ⟨f, rfl⟩ := Int.eq_ofNat_of_zero_le h1
  obtain ⟨q, rfl⟩ := Int.eq_ofNat_of_zero_le h3
  exact put_ok h f q p x c g (by omega) (by omega) hok
theorem words_row {L : List Int} (h : Words L) (f : Nat) (hf : f * 32 + 32 ≤ L.length) : Words (putRow L f zeros) := fun i => by
  have e : (putRow L f zeros).getD i 0 = if f * 32 ≤ i ∧ i < f * 32 + 32 then 0 else L.getD i 0 := by
    have hl : (L.take (f * 32)).length = f * 32 := by rw [List.length_take]; omega
    simp only [putRow, zeros, List.getD_eq_getElem?_getD]
    by_cases h1 : i < f * 32
    · rw [List.append_assoc, List.getElem?_append_left (by rw [hl]; exact h1), List.getElem?_take, if_pos h1, if_neg (by omega)]
    · by_cases h2 : i < f * 32 + 32
      · rw [List.append_assoc, List.getElem?_append_right (by rw [hl]; omega), hl, List.getElem?_append_left (by simp; omega), if_pos ⟨by omega, h2⟩, List.getElem?_replicate, if_pos (by omega)]; rfl
      · rw [List.append_assoc, List.getElem?_append_right (by rw [hl]; omega), hl, List.getElem?_append_right (by simp; omega), if_neg (by omega), List.getElem?_drop, List.length_replicate, show f * 32 + 32 + (i - f * 32 - 32) = i by omega]
  rw [e]
  split
  · decide
  · exact h i
end Go.Proofs.YtkenipanpimolaaGreatDoor

/- The contract of package ptable's find. Condition: the manager lies as New laid it; the listed tables read as laid. -/
namespace Go.Proofs.YtkenipanpimolaaGreatDoor
open Go.RowKit Go.Maps
set_option maxRecDepth 100000

/-- A request's value. -/
abbrev reqV (r pg : Int) (p x c : Bool) (g : Int) : Value := .agg #[.int .i64 r, .int .i64 pg, .bool p, .bool x, .bool c, .int .i64 g]
abbrev reqC (r pg : Int) (p x c : Bool) (g : Int) : Obj := .cells #[.int .i64 r, .int .i64 pg, .bool p, .bool x, .bool c, .int .i64 g] 202
def entO (e : Ent) : Obj := .cells #[.bool e.1, .bool e.2.1, .bool e.2.2.1, .int .i64 e.2.2.2] 166
/-- The entries on the way to a page. -/
def findE (n : Nat) (L : List Int) (r pg : Int) : Ent × Ent := if (getE n L r (pg / 32)).1 = true then (getE n L r (pg / 32), getE n L (getE n L r (pg / 32)).2.2.2 (pg % 32)) else (z0, z0)

/-- An entry is written into a box. -/
def put4b (w : World) (b : Nat) (e : Ent) : World := (((w.setCell ⟨b, 0, none⟩ (.bool e.1)).setCell ⟨b, 1, none⟩ (.bool e.2.1)).setCell ⟨b, 2, none⟩ (.bool e.2.2.1)).setCell ⟨b, 3, none⟩ (.int .i64 e.2.2.2)
theorem put4b_same {w : World} {b : Nat} {e e' : Ent} (h : w.heap[b]? = some (entO e)) : (put4b w b e').heap[b]? = some (entO e') := by
  have h1 := heap_setCell_same w b 0 _ _ (.bool e'.1) h
  have h2 := heap_setCell_same _ b 1 _ _ (.bool e'.2.1) h1
  have h3 := heap_setCell_same _ b 2 _ _ (.bool e'.2.2.1) h2
  exact heap_setCell_same _ b 3 _ _ (.int .i64 e'.2.2.2) h3
theorem put4b_other {w : World} {b k : Nat} {e' : Ent} (h : k ≠ b) : (put4b w b e').heap[k]? = w.heap[k]? := by
  have hk : ∀ (u : World) (i : Nat) (v : Value), (u.setCell ⟨b, i, none⟩ v).heap[k]? = u.heap[k]? := fun u i v => Below.heap_setCell _ _ _ _ h
  rw [put4b, hk, hk, hk, hk]
theorem put4b_below {W w : World} {n b : Nat} {e' : Ent} (h : Below n W w) (hb : n ≤ b) : Below n W (put4b w b e') :=
  (((h.setCell (p := ⟨b, 0, none⟩) hb _).setCell (p := ⟨b, 1, none⟩) hb _).setCell (p := ⟨b, 2, none⟩) hb _).setCell (p := ⟨b, 3, none⟩) hb _
/-- The boxes of find. -/
structure FindBx (w w1 : World) (r pg : Int) (p x c : Bool) (g : Int) (a b : Ent) : Prop where
  below : Below w.heap.size w w1
  req : w1.heap[w.heap.size]? = some (.cells #[.int .i64 r, .int .i64 pg, .bool p, .bool x, .bool c, .int .i64 g] 202 (0, 0))
  one : w1.heap[w.heap.size + 1]? = some (entO a)
  two : w1.heap[w.heap.size + 1 + 1]? = some (entO b)
theorem FindBx.start (w : World) (r pg : Int) (p x c : Bool) (g : Int) : FindBx w (((w.alloc (reqC r pg p x c g)).alloc (entO z0)).alloc (entO z0)) r pg p x c g z0 z0 := by
  have h2 := heap_alloc2_new w (reqC r pg p x c g) (entO z0)
  have h1 := heap_alloc2_old w (reqC r pg p x c g) (entO z0)
  have hs : ((w.alloc (reqC r pg p x c g)).alloc (entO z0)).heap.size = w.heap.size + 1 + 1 := by simp
  have hb : Below w.heap.size w ((w.alloc (reqC r pg p x c g)).alloc (entO z0)) := below_two w _ _
  generalize (w.alloc (reqC r pg p x c g)).alloc (entO z0) = v at *
  exact ⟨hb.alloc hb.size _, below_block ((Below.refl _ _).alloc (Nat.le_refl _) _) h1, below_block ((Below.refl _ _).alloc (Nat.le_refl _) _) h2, by rw [← hs]; exact World.alloc_heap_new v _⟩
theorem FindBx.step {w w1 w2 : World} {r pg : Int} {p x c : Bool} {g : Int} {a b : Ent} (h : FindBx w w1 r pg p x c g a b) (hb : Below w1.heap.size w1 w2) : FindBx w w2 r pg p x c g a b :=
  ⟨h.below.trans (hb.mono h.below.size), below_block hb h.req, below_block hb h.one, below_block hb h.two⟩
theorem FindBx.drew {w w1 : World} {r pg : Int} {p x c : Bool} {g : Int} {a b : Ent} (h : FindBx w w1 r pg p x c g a b) : FindBx w w1.drew r pg p x c g a b := ⟨h.below.drew, h.req, h.one, h.two⟩
theorem FindBx.put1 {w w1 : World} {r pg : Int} {p x c : Bool} {g : Int} {a b : Ent} (h : FindBx w w1 r pg p x c g a b) (e : Ent) : FindBx w (put4b w1 (w.heap.size + 1) e) r pg p x c g e b :=
  ⟨put4b_below h.below (by omega), (put4b_other (by omega)).trans h.req, put4b_same h.one, (put4b_other (by omega)).trans h.two⟩
theorem FindBx.put2 {w w1 : World} {r pg : Int} {p x c : Bool} {g : Int} {a b : Ent} (h : FindBx w w1 r pg p x c g a b) (e : Ent) : FindBx w (put4b w1 (w.heap.size + 1 + 1) e) r pg p x c g a e :=
  ⟨put4b_below h.below (by omega), (put4b_other (by omega)).trans h.req, (put4b_other (by omega)).trans h.one, put4b_same h.two⟩
theorem FindBx.res {w w1 : World} {r pg : Int} {p x c : Bool} {g : Int} {a b : Ent} (h : FindBx w w1 r pg p x c g a b) :
    (w1.cell? ⟨w.heap.size + 1, 0, none⟩ = some (.bool a.1) ∧ w1.cell? ⟨w.heap.size + 1, 1, none⟩ = some (.bool a.2.1) ∧ w1.cell? ⟨w.heap.size + 1, 2, none⟩ = some (.bool a.2.2.1) ∧ w1.cell? ⟨w.heap.size + 1, 3, none⟩ = some (.int .i64 a.2.2.2)) ∧
    (w1.cell? ⟨w.heap.size + 1 + 1, 0, none⟩ = some (.bool b.1) ∧ w1.cell? ⟨w.heap.size + 1 + 1, 1, none⟩ = some (.bool b.2.1) ∧ w1.cell? ⟨w.heap.size + 1 + 1, 2, none⟩ = some (.bool b.2.2.1) ∧ w1.cell? ⟨w.heap.size + 1 + 1, 3, none⟩ = some (.int .i64 b.2.2.2)) := by
  obtain ⟨a0, a1, a2, a3, _⟩ := box4 h.one
  obtain ⟨b0, b1, b2, b3, _⟩ := box4 h.two
  exact ⟨⟨a0, a1, a2, a3⟩, b0, b1, b2, b3⟩

theorem cells4 {w : World} {b : Nat} {e : Ent} (h : w.heap[b]? = some (entO e)) : w.cell? ⟨b, 0, none⟩ = some (.bool e.1) ∧ w.cell? ⟨b, 1, none⟩ = some (.bool e.2.1) ∧ w.cell? ⟨b, 2, none⟩ = some (.bool e.2.2.1) ∧ w.cell? ⟨b, 3, none⟩ = some (.int .i64 e.2.2.2) := by
  obtain ⟨a0, a1, a2, a3, _⟩ := box4 h
  exact ⟨a0, a1, a2, a3⟩
theorem get_is {W w : World} {tb sb : Nat} {X : PIx} {L : List Int} {R : Nat → Nat} {S : Nat → Bool} (h : Mg W w tb sb X L R S) (f q : Int) {p x c : Bool} {g : Int} (he : getE X.n L f q = (p, x, c, g)) :
    Calls Tryz.prog 156 #[.pointer (some ⟨tb, 0, none⟩), .int .i64 f, .int .i64 q] w fun e w' => e = .returned (ent p x c g) ∧ Below w.heap.size w w' := by
  have := get_any h f q
  rw [he] at this
  exact this
set_option maxHeartbeats 2000000 in
theorem find_ok {W w : World} {tb sb : Nat} {X : PIx} {L : List Int} {R : Nat → Nat} {S : Nat → Bool} (h : Mg W w tb sb X L R S) (r pg : Int) (p x c : Bool) (g : Int) (h0 : 0 ≤ pg) (h1 : pg < 1024) :
    Calls Tryz.prog 130 #[.pointer (some ⟨tb, 0, none⟩), reqV r pg p x c g] w fun e w' => e = .returned (.tuple #[entV (findE X.n L r pg).1, entV (findE X.n L r pg).2]) ∧ Below w.heap.size w w' := by
  have H := Lib.hid h
  have hz := Lib.hid h.own.st.mem.pos
  clear h
  go_enter Tryz.func130, Tryz.ntmps130
  go_wp2_with fail
  refine (places_ok pg _ h0 h1).mono ?_
  rintro e w' ⟨rfl, rfl⟩
  obtain ⟨w0, hw0⟩ : ∃ w0, w0 = ((w.alloc (reqC r pg p x c g)).alloc (entO z0)).alloc (entO z0) := ⟨_, rfl⟩
  have F0 : Hid (FindBx w w0 r pg p x c g z0 z0) := Lib.hid (by rw [hw0]; exact FindBx.start w r pg p x c g)
  have M0 := Lib.hid (H.out.step F0.out.below)
  have c0 : w0.cell? ⟨w.heap.size, 0, none⟩ = some (.int .i64 r) := by rw [cell_of_row _ _ _ _ _ _ F0.out.req]; rfl
  rw [← show w0 = ((w.alloc (.cells #[.int .i64 r, .int .i64 pg, .bool p, .bool x, .bool c, .int .i64 g] 202)).alloc (.cells #[.bool false, .bool false, .bool false, .int .i64 0] 166)).alloc (.cells #[.bool false, .bool false, .bool false, .int .i64 0] 166) from hw0]
  clear hw0
  go_wp2_with fail
  obtain ⟨⟨tp, tx, tc, tg⟩, ht⟩ : ∃ t, t = getE X.n L r (pg / 32) := ⟨_, rfl⟩
  have HT := Lib.hid ht
  refine (get_is M0.out r (pg / 32) ht.symm).mono ?_
  clear ht c0
  rintro e w1 ⟨rfl, hb⟩
  have F1 := Lib.hid (F0.out.step hb)
  have M1 := Lib.hid (M0.out.step hb)
  clear hb
  obtain ⟨⟨q0, q1, q2, q3⟩, q4, q5, q6, q7⟩ := F1.out.res
  have f0 := frozen_of_row w1 (w.heap.size + 1) 0 _ _ F1.out.one
  have f1 := frozen_of_row w1 (w.heap.size + 1) 1 _ _ F1.out.one
  have f2 := frozen_of_row w1 (w.heap.size + 1) 2 _ _ F1.out.one
  have f3 := frozen_of_row w1 (w.heap.size + 1) 3 _ _ F1.out.one
  have g0 := frozen_of_row w1 (w.heap.size + 1 + 1) 0 _ _ F1.out.two
  have g1 := frozen_of_row w1 (w.heap.size + 1 + 1) 1 _ _ F1.out.two
  have g2 := frozen_of_row w1 (w.heap.size + 1 + 1) 2 _ _ F1.out.two
  have g3 := frozen_of_row w1 (w.heap.size + 1 + 1) 3 _ _ F1.out.two
  cases tp with
  | false =>
    go_wp2
    refine bodyPost_ret (v := .tuple #[entV z0, entV z0]) ?_ rfl ⟨?_, ?_⟩
    · have F2 := ((F1.out.put1 (false, tx, tc, tg)).put1 z0).put2 z0
      obtain ⟨⟨a0, a1, a2, a3⟩, a4, a5, a6, a7⟩ := F2.res
      simp only [put4b, z0] at a0 a1 a2 a3 a4 a5 a6 a7
      simp [results, Tryz.results130, go_sem, a0, a1, a2, a3, a4, a5, a6, a7, z0, entV]
    · rw [show findE X.n L r pg = (z0, z0) by unfold findE; rw [← HT.out]; rfl]
    · exact (((F1.out.put1 (false, tx, tc, tg)).put1 z0).put2 z0).below
  | true =>
    go_wp2_with fail
    obtain ⟨w2, hw2⟩ : ∃ w2, w2 = put4b w1 (w.heap.size + 1) (true, tx, tc, tg) := ⟨_, rfl⟩
    have F2 : Hid (FindBx w w2 r pg p x c g (true, tx, tc, tg) z0) := Lib.hid (by rw [hw2]; exact F1.out.put1 _)
    have M2 : Hid (Mg W w2 tb sb X L R S) := Lib.hid (H.out.step F2.out.below)
    rw [← show w2 = (((w1.setCell ⟨w.heap.size + 1, 0, none⟩ (.bool true)).setCell ⟨w.heap.size + 1, 1, none⟩ (.bool tx)).setCell ⟨w.heap.size + 1, 2, none⟩ (.bool tc)).setCell ⟨w.heap.size + 1, 3, none⟩ (.int .i64 tg) from hw2]
    clear hw2 q0 q1 q2 q3 q4 q5 q6 q7 f0 f1 f2 f3 g0 g1 g2 g3
    obtain ⟨⟨q0, q1, q2, q3⟩, q4, q5, q6, q7⟩ := F2.out.res
    obtain ⟨⟨op, ox, oc, og⟩, ho⟩ : ∃ t, t = getE X.n L tg (pg % 32) := ⟨_, rfl⟩
    have HO := Lib.hid ho
    have D2 : Hid (Below w2.heap.size w2 w2.drew) := Lib.hid (Below.refl _ _).drew
    have M3 := Lib.hid (M2.out.step D2.out)
    have F3 := Lib.hid F2.out.drew
    clear ho q4 q5 q6 q7
    go_region_held3 (fun w' => w'.cell? ⟨w.heap.size + 1, 0, none⟩ = some (.bool true) ∧ w'.cell? ⟨w.heap.size + 1, 1, none⟩ = some (.bool tx) ∧ w'.cell? ⟨w.heap.size + 1, 2, none⟩ = some (.bool tc) ∧ w'.cell? ⟨w.heap.size + 1, 3, none⟩ = some (.int .i64 tg)) (first | go_keep | exact cells4 (F4.out.put1 (true, tx, tc, tg)).one | exact cells4 ((F4.out.put1 (true, tx, tc, tg)).put2 (op, ox, oc, og)).one | exact cells4 (F4.out.put2 (op, ox, oc, og)).one | exact cells4 ((F4.out.put2 (op, ox, oc, og)).put1 (true, tx, tc, tg)).one)
      (first | (go_at_call 156; refine (get_is M3.out tg (pg % 32) HO.out.symm).mono ?_; rintro e w4 ⟨rfl, hb⟩; have F4 := Lib.hid (F3.out.step hb); clear hb; obtain ⟨⟨k0, k1, k2, k3⟩, k4, k5, k6, k7⟩ := F4.out.res; have f0 := frozen_of_row w4 (w.heap.size + 1) 0 _ _ F4.out.one; have f1 := frozen_of_row w4 (w.heap.size + 1) 1 _ _ F4.out.one; have f2 := frozen_of_row w4 (w.heap.size + 1) 2 _ _ F4.out.one; have f3 := frozen_of_row w4 (w.heap.size + 1) 3 _ _ F4.out.one; have g0 := frozen_of_row w4 (w.heap.size + 1 + 1) 0 _ _ F4.out.two; have g1 := frozen_of_row w4 (w.heap.size + 1 + 1) 1 _ _ F4.out.two; have g2 := frozen_of_row w4 (w.heap.size + 1 + 1) 2 _ _ F4.out.two; have g3 := frozen_of_row w4 (w.heap.size + 1 + 1) 3 _ _ F4.out.two))
    have F5 := Lib.hid ((F4.out.put1 (true, tx, tc, tg)).put2 (op, ox, oc, og))
    clear k0 k1 k2 k3 k4 k5 k6 k7 f0 f1 f2 f3 g0 g1 g2 g3
    clear q0 q1 q2 q3
    go_wp2_with fail
    obtain ⟨w5, hw5⟩ : ∃ w5, w5 = put4b (put4b w4 (w.heap.size + 1) (true, tx, tc, tg)) (w.heap.size + 1 + 1) (op, ox, oc, og) := ⟨_, rfl⟩
    have F6 : FindBx w w5 r pg p x c g (true, tx, tc, tg) (op, ox, oc, og) := by rw [hw5]; exact F5.out
    rw [← show w5 = (((((((w4.setCell ⟨w.heap.size + 1, 0, none⟩ (.bool true)).setCell ⟨w.heap.size + 1, 1, none⟩ (.bool tx)).setCell ⟨w.heap.size + 1, 2, none⟩ (.bool tc)).setCell ⟨w.heap.size + 1, 3, none⟩ (.int .i64 tg)).setCell ⟨w.heap.size + 1 + 1, 0, none⟩ (.bool op)).setCell ⟨w.heap.size + 1 + 1, 1, none⟩ (.bool ox)).setCell ⟨w.heap.size + 1 + 1, 2, none⟩ (.bool oc)).setCell ⟨w.heap.size + 1 + 1, 3, none⟩ (.int .i64 og) from hw5]
    clear hw5
    obtain ⟨⟨a0, a1, a2, a3⟩, a4, a5, a6, a7⟩ := F6.res
    refine bodyPost_ret (v := .tuple #[entV (true, tx, tc, tg), entV (op, ox, oc, og)]) ?_ rfl ⟨?_, F6.below⟩
    · simp only at a0 a1 a2 a3 a4 a5 a6 a7
      simp [results, Tryz.results130, go_sem, a0, a1, a2, a3, a4, a5, a6, a7, entV]
    · rw [show findE X.n L r pg = ((true, tx, tc, tg), (op, ox, oc, og)) by unfold findE; rw [← HT.out, HO.out]; rfl]
end Go.Proofs.YtkenipanpimolaaGreatDoor

/- The contracts of package ptable's questions, but empty. Condition: the manager lies as New laid it, or there is none, or nobody made it; the listed tables read as laid. -/
namespace Go.Proofs.YtkenipanpimolaaGreatDoor
open Go.RowKit Go.Maps
set_option maxRecDepth 100000

/-- No manager: none is there, or nobody made it. -/
def NoMg (w : World) (t : Option Addr) : Prop := t = none ∨ ∃ b, t = some ⟨b, 0, none⟩ ∧ w.heap[b]? = some (.cells #[.pointer none, .pointer none, .int .i64 0, .map none] 153 (0, 0))
theorem below_req (w : World) (r pg : Int) (p x c : Bool) (g : Int) : Below w.heap.size w (w.alloc (reqC r pg p x c g)) := (Below.refl _ _).alloc (Nat.le_refl _) _
theorem made_ok {W w : World} {tb sb : Nat} {X : PIx} {L : List Int} {R : Nat → Nat} {S : Nat → Bool} (h : Mg W w tb sb X L R S) (r pg : Int) (p x c : Bool) (g : Int) :
    Calls Tryz.prog 119 #[.pointer (some ⟨tb, 0, none⟩), reqV r pg p x c g] w fun e w' => e = .returned (.int .i64 0) ∧ Below w.heap.size w w' := by
  have c0 := (h.step (below_req w r pg p x c g)).c0
  have B := Lib.hid (below_req w r pg p x c g)
  clear h
  go_enter Tryz.func119, Tryz.ntmps119
  go_wp2
  go_ret
  exact ⟨rfl, B.out⟩
def numE (pg : Int) : Int := if 0 ≤ pg ∧ pg < 1024 then 0 else 2
theorem numbered_any (w : World) (r pg : Int) (p x c : Bool) (g : Int) (hp : I64 pg) :
    Calls Tryz.prog 128 #[reqV r pg p x c g] w fun e w' => e = .returned (.int .i64 (numE pg)) ∧ Below w.heap.size w w' := by
  have B := Lib.hid (below_req w r pg p x c g)
  by_cases h0 : pg < 0
  · have d0 : decide (pg < 0) = true := decide_eq_true h0
    have e : numE pg = 2 := by unfold numE; rw [if_neg (by omega)]
    rw [e]
    clear e
    go_enter Tryz.func128, Tryz.ntmps128
    go_wp2
    go_ret
    exact ⟨rfl, B.out⟩
  · have d0 : decide (pg < 0) = false := decide_eq_false h0
    by_cases h1 : 1024 ≤ pg
    · have d1 : decide ((1024 : Int) ≤ pg) = true := decide_eq_true h1
      have e : numE pg = 2 := by unfold numE; rw [if_neg (by omega)]
      rw [e]
      clear e
      go_enter Tryz.func128, Tryz.ntmps128
      go_wp2
      go_ret
      exact ⟨rfl, B.out⟩
    · have d1 : decide ((1024 : Int) ≤ pg) = false := decide_eq_false h1
      have e : numE pg = 0 := by unfold numE; rw [if_pos (by omega)]
      rw [e]
      clear e
      go_enter Tryz.func128, Tryz.ntmps128
      go_wp2
      go_ret
      exact ⟨rfl, B.out⟩
/-- May a page have an entry? -/
def fitB (n : Nat) (p x c : Bool) (g : Int) : Bool := p && (decide (g < (n : Int)) && okE p x c g)
def fitE (n : Nat) (p x c : Bool) (g : Int) : Int := if fitB n p x c g then 0 else 2
set_option maxHeartbeats 1000000 in
theorem fits_any {W w : World} {tb sb : Nat} {X : PIx} {L : List Int} {R : Nat → Nat} {S : Nat → Bool} (h : Mg W w tb sb X L R S) (r pg : Int) (p x c : Bool) (g : Int) :
    Calls Tryz.prog 134 #[.pointer (some ⟨tb, 0, none⟩), reqV r pg p x c g] w fun e w' => e = .returned (.int .i64 (fitE X.n p x c g)) ∧ Below w.heap.size w w' := by
  obtain ⟨w0, hw0⟩ : ∃ w0, w0 = w.alloc (reqC r pg p x c g) := ⟨_, rfl⟩
  have B := Lib.hid (below_req w r pg p x c g)
  rw [← hw0] at B
  have M0 := Lib.hid (h.step B.out)
  have c0 := M0.out.c0
  have HM : Hid (w0.cell? ⟨X.mp, 0, none⟩ = some (.slice (some ⟨X.fb, 0, none⟩) X.n X.n)) := Lib.hid M0.out.own.st.mem.cellM
  have hq : w0.heap[w.heap.size]? = some (.cells #[.int .i64 r, .int .i64 pg, .bool p, .bool x, .bool c, .int .i64 g] 202 (0, 0)) := by rw [hw0]; exact heap_alloc_new w _
  have q2 : w0.cell? ⟨w.heap.size, 2, none⟩ = some (.bool p) := by rw [cell_of_row _ _ _ _ _ _ hq]; rfl
  have q3 : w0.cell? ⟨w.heap.size, 3, none⟩ = some (.bool x) := by rw [cell_of_row _ _ _ _ _ _ hq]; rfl
  have q4 : w0.cell? ⟨w.heap.size, 4, none⟩ = some (.bool c) := by rw [cell_of_row _ _ _ _ _ _ hq]; rfl
  have q5 : w0.cell? ⟨w.heap.size, 5, none⟩ = some (.int .i64 g) := by rw [cell_of_row _ _ _ _ _ _ hq]; rfl
  clear hq h
  cases p with
  | false =>
    rw [show fitE X.n false x c g = 2 by rfl]
    go_enter Tryz.func134, Tryz.ntmps134
    go_wp2_with fail
    rw [← hw0]
    clear hw0
    go_quiet ((go_at_call 30; exact Calls.quiet_of_same ((frames_some _ _ _ _ _ (by exact HM.out)).mono fun _ _ h => ⟨h.1, h.2.symm⟩)))
    go_wp2
    go_ret
    exact ⟨rfl, below_drewN B.out _⟩
  | true =>
    by_cases hf : (X.n : Int) ≤ g
    · have d1 : decide ((X.n : Int) ≤ g) = true := decide_eq_true hf
      rw [show fitE X.n true x c g = 2 by unfold fitE fitB; rw [decide_eq_false (by omega)]; rfl]
      go_enter Tryz.func134, Tryz.ntmps134
      go_wp2_with fail
      rw [← hw0]
      clear hw0
      go_quiet ((go_at_call 30; exact Calls.quiet_of_same ((frames_some _ _ _ _ _ (by exact HM.out)).mono fun _ _ h => ⟨h.1, h.2.symm⟩)))
      go_wp2
      go_ret
      exact ⟨rfl, below_drewN B.out _⟩
    · have d1 : decide ((X.n : Int) ≤ g) = false := decide_eq_false hf
      have E : Hid (fitE X.n true x c g = errE (okE true x c g)) := Lib.hid (by unfold fitE fitB errE; rw [decide_eq_true (by omega)]; simp)
      go_enter Tryz.func134, Tryz.ntmps134
      go_wp2_with fail
      rw [← hw0]
      clear hw0
      go_quiet ((go_at_call 30; exact Calls.quiet_of_same ((frames_some _ _ _ _ _ (by exact HM.out)).mono fun _ _ h => ⟨h.1, h.2.symm⟩)))
      go_wp2_with fail
      refine (check_any true x c g _).mono ?_
      rintro e w2 ⟨rfl, hb⟩
      go_wp2
      go_ret
      exact ⟨by rw [E.out]; rfl, (below_drewN B.out _).trans (hb.mono (below_drewN B.out _).size)⟩
theorem spc_run {w : World} {b : Nat} {S : Nat → Bool} (h : SpcAt w b S) (y : Int) (hy : I64 y) (c : Bool) (hc : isSp S y = c) : (Instr.lookup 151 (.map (some b)) (.int .i64 y) true).run Tryz.prog w = .ok (.tuple #[.agg #[], .bool c]) w := by
  obtain ⟨D, k, hown, _, hr⟩ := h
  obtain ⟨v, ps, hrun, hv⟩ := hown.look_ok keyI Tryz.underlying151 (zeroUnit w) (zd := .agg []) (zp := []) unitElem_mk (keyOfI y hy)
  obtain ⟨rfl, _⟩ := unitElem_inv hv
  rw [hr.at_ y, hc] at hrun
  exact hrun
/-- Is it a space? -/
def openE (S : Nat → Bool) (r : Int) : Int := if isSp S r then 0 else 4
set_option maxHeartbeats 1000000 in
theorem opened_any {W w : World} {tb sb : Nat} {X : PIx} {L : List Int} {R : Nat → Nat} {S : Nat → Bool} (h : Mg W w tb sb X L R S) (r pg : Int) (p x c : Bool) (g : Int) (hr : I64 r) :
    Calls Tryz.prog 126 #[.pointer (some ⟨tb, 0, none⟩), reqV r pg p x c g] w fun e w' => e = .returned (.int .i64 (openE S r)) ∧ Below w.heap.size w w' := by
  obtain ⟨w0, hw0⟩ : ∃ w0, w0 = w.alloc (reqC r pg p x c g) := ⟨_, rfl⟩
  have B := Lib.hid (below_req w r pg p x c g)
  rw [← hw0] at B
  have M0 := Lib.hid (h.step B.out)
  have c3 := M0.out.c3
  have hq : w0.heap[w.heap.size]? = some (.cells #[.int .i64 r, .int .i64 pg, .bool p, .bool x, .bool c, .int .i64 g] 202 (0, 0)) := by rw [hw0]; exact heap_alloc_new w _
  have q0 : w0.cell? ⟨w.heap.size, 0, none⟩ = some (.int .i64 r) := by rw [cell_of_row _ _ _ _ _ _ hq]; rfl
  have SPC : Hid (∀ k, SpcAt (w0.drewN k) sb S) := Lib.hid fun k => M0.out.spc.same rfl
  clear hq h
  obtain ⟨b, hs⟩ : ∃ b, isSp S r = b := ⟨_, rfl⟩
  have HS := Lib.hid hs
  have hl := spc_run M0.out.spc r hr b hs
  go_enter Tryz.func126, Tryz.ntmps126
  go_wp2_with fail
  rw [← hw0]
  clear hw0 hs
  have KP : Hid (∀ w', Below w0.heap.size w0 w' → w'.cell? ⟨tb, 3, none⟩ = some (.map (some sb)) ∧ w'.cell? ⟨w.heap.size, 0, none⟩ = some (.int .i64 r) ∧ (Instr.lookup 151 (.map (some sb)) (.int .i64 r) true).run Tryz.prog w' = .ok (.tuple #[.agg #[], .bool b]) w') := Lib.hid fun w' hb => ⟨(M0.out.step hb).c3, (hb.cell (p := ⟨w.heap.size, 0, none⟩) (block_lt_of_cell q0)).trans q0, spc_run (M0.out.step hb).spc r hr b HS.out⟩
  go_region_held3 (fun w' => w'.cell? ⟨tb, 3, none⟩ = some (.map (some sb)) ∧ w'.cell? ⟨w.heap.size, 0, none⟩ = some (.int .i64 r) ∧ (Instr.lookup 151 (.map (some sb)) (.int .i64 r) true).run Tryz.prog w' = .ok (.tuple #[.agg #[], .bool b]) w') (first | exact KP.out _ (Below.refl _ _).drew | exact KP.out _ ((Below.refl _ _).drew.alloc (Nat.le_refl _) _))
    (fail)
  all_goals
    have B2 : Hid (Below w.heap.size w (w0.alloc (.cells #[] 204)).drew) := Lib.hid (B.out.alloc B.out.size _).drew
    generalize (w0.alloc (.cells #[] 204)).drew = w5 at *
    cases b with
    | true =>
      go_wp2
      go_ret
      exact ⟨by unfold openE; rw [HS.out]; rfl, B2.out⟩
    | false =>
      go_wp2
      go_ret
      exact ⟨by unfold openE; rw [HS.out]; rfl, B2.out⟩
theorem find_is {W w : World} {tb sb : Nat} {X : PIx} {L : List Int} {R : Nat → Nat} {S : Nat → Bool} (h : Mg W w tb sb X L R S) (r pg : Int) (p x c : Bool) (g : Int) (h0 : 0 ≤ pg) (h1 : pg < 1024) {tp tx tc op ox oc : Bool} {tg og : Int} (he : findE X.n L r pg = ((tp, tx, tc, tg), (op, ox, oc, og))) :
    Calls Tryz.prog 130 #[.pointer (some ⟨tb, 0, none⟩), reqV r pg p x c g] w fun e w' => e = .returned (.tuple #[ent tp tx tc tg, ent op ox oc og]) ∧ Below w.heap.size w w' := by
  have := find_ok h r pg p x c g h0 h1
  rw [he] at this
  exact this
/-- Is a page mapped? -/
def mapE (n : Nat) (L : List Int) (r pg : Int) : Int := if (findE n L r pg).2.1 = true then 0 else 4
set_option maxHeartbeats 1000000 in
theorem mapped_ok {W w : World} {tb sb : Nat} {X : PIx} {L : List Int} {R : Nat → Nat} {S : Nat → Bool} (h : Mg W w tb sb X L R S) (r pg : Int) (p x c : Bool) (g : Int) (h0 : 0 ≤ pg) (h1 : pg < 1024) :
    Calls Tryz.prog 129 #[.pointer (some ⟨tb, 0, none⟩), reqV r pg p x c g] w fun e w' => e = .returned (.int .i64 (mapE X.n L r pg)) ∧ Below w.heap.size w w' := by
  obtain ⟨⟨⟨tp, tx, tc, tg⟩, op, ox, oc, og⟩, he⟩ : ∃ t, t = findE X.n L r pg := ⟨_, rfl⟩
  have HE := Lib.hid he
  have H := Lib.hid h
  have B := Lib.hid (below_req w r pg p x c g)
  clear h he
  go_enter Tryz.func129, Tryz.ntmps129
  go_wp2_with fail
  refine (find_is (H.out.step B.out) r pg p x c g h0 h1 HE.out.symm).mono ?_
  rintro e w1 ⟨rfl, hb⟩
  have B1 := Lib.hid (B.out.trans (hb.mono B.out.size))
  clear hb
  cases op with
  | true =>
    go_wp2
    go_ret
    exact ⟨by unfold mapE; rw [← HE.out]; rfl, (B1.out.alloc B1.out.size _).alloc (by have := B1.out.size; simp; omega) _⟩
  | false =>
    go_wp2
    go_ret
    exact ⟨by unfold mapE; rw [← HE.out]; rfl, (B1.out.alloc B1.out.size _).alloc (by have := B1.out.size; simp; omega) _⟩
def unmE (n : Nat) (L : List Int) (r pg : Int) : Int := if (findE n L r pg).2.1 = true then 5 else 0
set_option maxHeartbeats 1000000 in
theorem unmapped_ok {W w : World} {tb sb : Nat} {X : PIx} {L : List Int} {R : Nat → Nat} {S : Nat → Bool} (h : Mg W w tb sb X L R S) (r pg : Int) (p x c : Bool) (g : Int) (h0 : 0 ≤ pg) (h1 : pg < 1024) :
    Calls Tryz.prog 135 #[.pointer (some ⟨tb, 0, none⟩), reqV r pg p x c g] w fun e w' => e = .returned (.int .i64 (unmE X.n L r pg)) ∧ Below w.heap.size w w' := by
  have H := Lib.hid h
  have B := Lib.hid (below_req w r pg p x c g)
  have hm := mapped_ok (h.step B.out) r pg p x c g h0 h1
  clear h
  unfold mapE at hm
  unfold unmE
  by_cases hf : (findE X.n L r pg).2.1 = true
  · rw [if_pos hf] at hm ⊢
    have HM := Lib.hid hm
    clear hm hf
    go_enter Tryz.func135, Tryz.ntmps135
    go_wp2_with fail
    refine HM.out.mono ?_
    rintro e w1 ⟨rfl, hb⟩
    have B1 := Lib.hid (B.out.trans (hb.mono B.out.size))
    clear hb
    go_wp2
    go_ret
    exact ⟨rfl, B1.out⟩
  · rw [if_neg hf] at hm ⊢
    have HM := Lib.hid hm
    clear hm hf
    go_enter Tryz.func135, Tryz.ntmps135
    go_wp2_with fail
    refine HM.out.mono ?_
    rintro e w1 ⟨rfl, hb⟩
    have B1 := Lib.hid (B.out.trans (hb.mono B.out.size))
    clear hb
    go_wp2
    go_ret
    exact ⟨rfl, B1.out⟩
end Go.Proofs.YtkenipanpimolaaGreatDoor

/- The contracts of package ptable's there (an iterator over a table's entries), bare, empty. Condition: the manager lies as New laid it; the listed tables read as laid. -/
namespace Go.Proofs.YtkenipanpimolaaGreatDoor
open Go.RowKit Go.Maps Go.Shelf
attribute [local go_sem] Oper.semAt_some
set_option maxRecDepth 100000

/-- The entries of a table that are Present, below a place. -/
abbrev PEnt := Int × Ent
def thereN (n : Nat) (L : List Int) (t : Int) : Nat → List PEnt
  | 0 => []
  | k + 1 => thereN n L t k ++ (if (getE n L t (k : Int)).1 = true then [((k : Int), getE n L t (k : Int))] else [])
theorem thereN_yes {n : Nat} {L : List Int} {t : Int} {k : Nat} {e : Ent} (h : getE n L t (k : Int) = e) (hp : e.1 = true) : thereN n L t (k + 1) = thereN n L t k ++ [((k : Int), e)] := by
  simp [thereN, h, hp]
theorem thereN_no {n : Nat} {L : List Int} {t : Int} {k : Nat} (hp : (getE n L t (k : Int)).1 = false) : thereN n L t (k + 1) = thereN n L t k := by
  simp [thereN, hp]
theorem thereN_pre (n : Nat) (L : List Int) (t : Int) {m k : Nat} (h : m ≤ k) : thereN n L t m <+: thereN n L t k := by
  obtain ⟨d, rfl⟩ := Nat.exists_eq_add_of_le h
  clear h
  induction d with
  | zero => exact List.prefix_rfl
  | succ d ih => exact ih.trans (List.prefix_append _ _)
theorem thereN_bound (n : Nat) (L : List Int) (t : Int) (k : Nat) : ∀ x ∈ thereN n L t k, ∃ j : Nat, j < k ∧ x = ((j : Int), getE n L t (j : Int)) ∧ (getE n L t (j : Int)).1 = true := by
  induction k with
  | zero => intro x h; simp [thereN] at h
  | succ k ih =>
    intro x h
    simp only [thereN, List.mem_append] at h
    rcases h with h | h
    · obtain ⟨j, h1, h2⟩ := ih x h
      exact ⟨j, by omega, h2⟩
    · split at h
      · rename_i hp
        simp only [List.mem_singleton] at h
        exact ⟨k, by omega, h, hp⟩
      · simp at h
theorem thereN_length (n : Nat) (L : List Int) (t : Int) (k : Nat) : (thereN n L t k).length ≤ k := by
  induction k with
  | zero => simp [thereN]
  | succ k ih => simp only [thereN, List.length_append]; split <;> simp <;> omega
def thereL (n : Nat) (L : List Int) (t : Int) : List PEnt := thereN n L t 32
def encE (x : PEnt) : Array Value := #[.int .i64 x.1, entV x.2]

/-- The iterator is made: what it is of lies in variables of its own. -/
theorem mkThere_ok (q : Option Addr) (t : Int) (w : World) : Calls Tryz.prog 127 #[.pointer q, .int .i64 t] w fun e w' => e = .returned (.func (.func 155) #[] #[.pointer (some ⟨w.heap.size, 0, none⟩), .pointer (some ⟨w.heap.size + 1, 0, none⟩)]) ∧ w' = (w.alloc (.cells #[.pointer q] 91)).alloc (.cells #[.int .i64 t] 3) := by
  have hmf : ∀ (fn : Fn) (first cap : Array Value) (w : World), (Instr.makeFunc fn first cap).run Tryz.prog w = .ok (.func fn first cap) w := fun _ _ _ _ => rfl
  go_enter Tryz.func127, Tryz.ntmps127
  go_wp2
  go_ret
  exact ⟨rfl, rfl⟩

structure ThRel (w0 W : World) (b1 b2 tb : Nat) (t : Int) (J : List PEnt → World → Prop) (l : List PEnt) (wr : World) : Prop where
  bel : Below w0.heap.size w0 wr
  size : W.heap.size ≤ wr.heap.size
  box1 : wr.heap[b1]? = some (.cells #[.pointer (some ⟨tb, 0, none⟩)] 91 (0, 0))
  box2 : wr.heap[b2]? = some (.cells #[.int .i64 t] 3 (0, 0))
  told : J l wr
end Go.Proofs.YtkenipanpimolaaGreatDoor

/- The contracts of package ptable's bare, empty. Condition: the manager lies as New laid it; the listed tables read as laid. -/
namespace Go.Proofs.YtkenipanpimolaaGreatDoor
open Go.RowKit Go.Maps Go.Shelf
attribute [local go_sem] Oper.semAt_some
set_option maxRecDepth 100000

/-- Has a table no entry that is Present? -/
def bareB (n : Nat) (L : List Int) (t : Int) : Bool := (thereL n L t).isEmpty
structure BareSt (w V : World) (v : Bool) : Prop where
  bel : Below w.heap.size w V
  res : V.heap[w.heap.size]? = some (.cells #[.bool v] 4 (0, 0))
def emptyE (n : Nat) (L : List Int) (r : Int) : Int := if bareB n L r then 0 else 9
end Go.Proofs.YtkenipanpimolaaGreatDoor

/- The contract of package ptable's ask: a row of questions. Condition: each question has a contract. -/
namespace Go.Proofs.YtkenipanpimolaaGreatDoor
open Go.RowKit Go.Maps
set_option maxRecDepth 100000

/-- The first error. -/
def firstE : List Int → Int
  | [] => 0
  | e :: r => if e = 0 then firstE r else e
theorem firstE_zero : ∀ es : List Int, (∀ j, j < es.length → es.getD j 0 = 0) → firstE es = 0
  | [], _ => rfl
  | e :: r, h => by
    have h0 := h 0 (by simp)
    simp only [List.getD_cons_zero] at h0
    simp only [firstE, h0, if_true]
    exact firstE_zero r fun j hj => by have := h (j + 1) (by simpa using hj); simpa using this
theorem firstE_at : ∀ (es : List Int) (i : Nat), i < es.length → (∀ j, j < i → es.getD j 0 = 0) → es.getD i 0 ≠ 0 → firstE es = es.getD i 0
  | [], i, h, _, _ => by simp at h
  | e :: r, 0, _, _, h => by simp only [List.getD_cons_zero] at h ⊢; simp [firstE, h]
  | e :: r, i + 1, hi, h0, h => by
    have h1 := h0 0 (by omega)
    simp only [List.getD_cons_zero] at h1
    simp only [List.getD_cons_succ] at h ⊢
    simp only [firstE, h1, if_true]
    exact firstE_at r i (by simpa using hi) (fun j hj => by have := h0 (j + 1) (by omega); simpa using this) h
abbrev Quest := Nat × Array Value
def questV (q : Quest) : Value := .func (.func q.1) q.2 #[]
def AskRel (w : World) (es : List Int) (n : Nat) (r pg : Int) (p x c : Bool) (g : Int) (i : Value) (wr : World) : Prop :=
  ∃ j : Nat, i = .int .i64 (j : Int) ∧ j ≤ n ∧ Below w.heap.size w wr ∧ wr.heap[w.heap.size]? = some (.cells #[.int .i64 r, .int .i64 pg, .bool p, .bool x, .bool c, .int .i64 g] 202 (0, 0)) ∧ ∀ k, k < j → es.getD k 0 = 0
set_option maxHeartbeats 2000000 in
theorem ask_any (qs : List Quest) (es : List Int) (b n : Nat) (r pg : Int) (p x c : Bool) (g : Int) (w : World) (hn : n = qs.length) (hl : es.length = n) (h8 : n ≤ 8) (hb : w.heap[b]? = some (.cells (qs.map questV).toArray 236 (0, 0)))
    (hent : ∀ i, i < n → ∀ (args : Array Value) (W : World), (callFunc (qs.getD i default).1 args).run Tryz.prog W = .ok (.enter (qs.getD i default).1 args) W)
    (hq : ∀ i, i < n → (∀ j, j < i → es.getD j 0 = 0) → ∀ W, Below w.heap.size w W → Calls Tryz.prog (qs.getD i default).1 ((qs.getD i default).2 ++ #[reqV r pg p x c g]) W fun e w' => e = .returned (.int .i64 (es.getD i 0)) ∧ Below W.heap.size W w') :
    Calls Tryz.prog 118 #[reqV r pg p x c g, .slice (some ⟨b, 0, none⟩) n n] w fun e w' => e = .returned (.int .i64 (firstE es)) ∧ Below w.heap.size w w' := by
  have B := Lib.hid (below_req w r pg p x c g)
  have R0 : Hid ((w.alloc (reqC r pg p x c g)).heap[w.heap.size]? = some (.cells #[.int .i64 r, .int .i64 pg, .bool p, .bool x, .bool c, .int .i64 g] 202 (0, 0))) := Lib.hid (heap_alloc_new w _)
  have HENT := Lib.hid hent
  have HQ := Lib.hid hq
  have HB := Lib.hid hb
  have HL := Lib.hid hl
  have HN := Lib.hid hn
  clear hent hq hb hl hn
  go_enter Tryz.func118, Tryz.ntmps118
  go_wp2_with fail
  go_loopw [10] (fun i wr => AskRel w es n r pg p x c g i wr) (fun i _ => (n - (intOf i).toNat))
  case atStart => exact ⟨0, rfl, Nat.zero_le _, B.out, R0.out, fun k hk => absurd hk (Nat.not_lt_zero _)⟩
  case round =>
    obtain ⟨j, rfl, hj, hB, hR, hz⟩ := hrel
    have BB := Lib.hid hB
    have RR := Lib.hid hR
    have ZZ := Lib.hid hz
    clear hB hR hz
    by_cases hlt : j < n
    · obtain ⟨⟨f, fa⟩, hf⟩ : ∃ q, q = qs.getD j default := ⟨_, rfl⟩
      have hc : wr.cell? ⟨b, j, none⟩ = some (.func (.func f) fa #[]) := by
        refine (BB.out.cell (p := ⟨b, j, none⟩) (lt_of_block HB.out)).trans ?_
        rw [cell_of_row _ _ _ _ _ _ HB.out]
        have hlq : j < qs.length := by rw [← HN.out]; exact hlt
        have e : qs.getD j default = qs[j] := by simp [List.getD_eq_getElem?_getD, hlq]
        rw [e] at hf
        simp [hlq, ← hf, questV]
      have he := HENT.out j hlt
      have hcall := HQ.out j hlt ZZ.out wr BB.out
      rw [← hf] at he hcall
      simp only at he hcall
      have HC := Lib.hid hcall
      obtain ⟨e, hee⟩ : ∃ e, e = es.getD j 0 := ⟨_, rfl⟩
      have q0 : wr.cell? ⟨w.heap.size, 0, none⟩ = some (.int .i64 r) := by rw [cell_of_row _ _ _ _ _ _ RR.out]; rfl
      have q1 : wr.cell? ⟨w.heap.size, 1, none⟩ = some (.int .i64 pg) := by rw [cell_of_row _ _ _ _ _ _ RR.out]; rfl
      have q2 : wr.cell? ⟨w.heap.size, 2, none⟩ = some (.bool p) := by rw [cell_of_row _ _ _ _ _ _ RR.out]; rfl
      have q3 : wr.cell? ⟨w.heap.size, 3, none⟩ = some (.bool x) := by rw [cell_of_row _ _ _ _ _ _ RR.out]; rfl
      have q4 : wr.cell? ⟨w.heap.size, 4, none⟩ = some (.bool c) := by rw [cell_of_row _ _ _ _ _ _ RR.out]; rfl
      have q5 : wr.cell? ⟨w.heap.size, 5, none⟩ = some (.int .i64 g) := by rw [cell_of_row _ _ _ _ _ _ RR.out]; rfl
      have EE := Lib.hid hee
      clear hcall hf hee
      go_wp2_with fail
      refine HC.out.mono ?_
      rw [← EE.out]
      rintro e' w1 ⟨rfl, hb⟩
      have B1 := Lib.hid (BB.out.trans (hb.mono BB.out.size))
      have R1 := Lib.hid (below_block hb RR.out)
      clear hb q0 q1 q2 q3 q4 q5 hc he
      by_cases h0 : e = 0
      · subst h0
        go_wp2
        go_roundw
        case rel => exact ⟨j + 1, by go_num, by omega, B1.out, R1.out, fun k hk => by
          rcases Nat.lt_or_ge k j with h | h
          · exact ZZ.out k h
          · rw [show k = j by omega, ← EE.out]⟩
        case measure => simp [intOf]; omega
      · have hne : (e != 0) = true := by simpa using h0
        go_wp2
        go_ret
        exact ⟨by rw [firstE_at es j (by rw [HL.out]; exact hlt) ZZ.out (by rw [← EE.out]; exact h0), ← EE.out]; rfl, B1.out⟩
    · obtain rfl : j = n := by omega
      go_wp2
      go_ret
      exact ⟨by rw [firstE_zero es (fun k hk => ZZ.out k (by rw [← HL.out]; exact hk))]; rfl, BB.out⟩
theorem numE_ok {pg : Int} (h : numE pg = 0) : 0 ≤ pg ∧ pg < 1024 := by
  unfold numE at h
  split at h
  · assumption
  · exact absurd h (by decide)
theorem ask_open {W w : World} {tb sb : Nat} {X : PIx} {L : List Int} {R : Nat → Nat} {S : Nat → Bool} (h : Mg W w tb sb X L R S) (b : Nat) (r pg : Int) (p x c : Bool) (g : Int) (hb : w.heap[b]? = some (.cells #[.func (.func 119) #[.pointer (some ⟨tb, 0, none⟩)] #[]] 236 (0, 0))) :
    Calls Tryz.prog 118 #[reqV r pg p x c g, .slice (some ⟨b, 0, none⟩) 1 1] w fun e w' => e = .returned (.int .i64 (firstE [0])) ∧ Below w.heap.size w w' := by
  refine ask_any [(119, #[.pointer (some ⟨tb, 0, none⟩)])] [0] b 1 r pg p x c g w rfl rfl (by decide) hb ?_ ?_
  · intro i hi
    rcases (show i = 0 by omega) with rfl
    · exact enters Tryz.func119 rfl rfl
  · intro i hi hz V hW
    rcases (show i = 0 by omega) with rfl
    · exact made_ok (h.step hW) r pg p x c g
theorem ask_map {W w : World} {tb sb : Nat} {X : PIx} {L : List Int} {R : Nat → Nat} {S : Nat → Bool} (h : Mg W w tb sb X L R S) (b : Nat) (r pg : Int) (p x c : Bool) (g : Int) (hr : I64 r) (hp : I64 pg) (hb : w.heap[b]? = some (.cells #[.func (.func 119) #[.pointer (some ⟨tb, 0, none⟩)] #[], .func (.func 128) #[] #[], .func (.func 134) #[.pointer (some ⟨tb, 0, none⟩)] #[], .func (.func 126) #[.pointer (some ⟨tb, 0, none⟩)] #[], .func (.func 135) #[.pointer (some ⟨tb, 0, none⟩)] #[]] 236 (0, 0))) :
    Calls Tryz.prog 118 #[reqV r pg p x c g, .slice (some ⟨b, 0, none⟩) 5 5] w fun e w' => e = .returned (.int .i64 (firstE [0, numE pg, fitE X.n p x c g, openE S r, unmE X.n L r pg])) ∧ Below w.heap.size w w' := by
  refine ask_any [(119, #[.pointer (some ⟨tb, 0, none⟩)]), (128, #[]), (134, #[.pointer (some ⟨tb, 0, none⟩)]), (126, #[.pointer (some ⟨tb, 0, none⟩)]), (135, #[.pointer (some ⟨tb, 0, none⟩)])] [0, numE pg, fitE X.n p x c g, openE S r, unmE X.n L r pg] b 5 r pg p x c g w rfl rfl (by decide) hb ?_ ?_
  · intro i hi
    rcases (show i = 0 ∨ i = 1 ∨ i = 2 ∨ i = 3 ∨ i = 4 by omega) with rfl | rfl | rfl | rfl | rfl
    · exact enters Tryz.func119 rfl rfl
    · exact enters Tryz.func128 rfl rfl
    · exact enters Tryz.func134 rfl rfl
    · exact enters Tryz.func126 rfl rfl
    · exact enters Tryz.func135 rfl rfl
  · intro i hi hz V hW
    rcases (show i = 0 ∨ i = 1 ∨ i = 2 ∨ i = 3 ∨ i = 4 by omega) with rfl | rfl | rfl | rfl | rfl
    · exact made_ok (h.step hW) r pg p x c g
    · exact numbered_any V r pg p x c g hp
    · exact fits_any (h.step hW) r pg p x c g
    · exact opened_any (h.step hW) r pg p x c g hr
    · exact unmapped_ok (h.step hW) r pg p x c g (numE_ok (by have := hz 1 (by decide); exact this)).1 (numE_ok (by have := hz 1 (by decide); exact this)).2
theorem ask_unmap {W w : World} {tb sb : Nat} {X : PIx} {L : List Int} {R : Nat → Nat} {S : Nat → Bool} (h : Mg W w tb sb X L R S) (b : Nat) (r pg : Int) (p x c : Bool) (g : Int) (hr : I64 r) (hp : I64 pg) (hb : w.heap[b]? = some (.cells #[.func (.func 119) #[.pointer (some ⟨tb, 0, none⟩)] #[], .func (.func 128) #[] #[], .func (.func 126) #[.pointer (some ⟨tb, 0, none⟩)] #[], .func (.func 129) #[.pointer (some ⟨tb, 0, none⟩)] #[]] 236 (0, 0))) :
    Calls Tryz.prog 118 #[reqV r pg p x c g, .slice (some ⟨b, 0, none⟩) 4 4] w fun e w' => e = .returned (.int .i64 (firstE [0, numE pg, openE S r, mapE X.n L r pg])) ∧ Below w.heap.size w w' := by
  refine ask_any [(119, #[.pointer (some ⟨tb, 0, none⟩)]), (128, #[]), (126, #[.pointer (some ⟨tb, 0, none⟩)]), (129, #[.pointer (some ⟨tb, 0, none⟩)])] [0, numE pg, openE S r, mapE X.n L r pg] b 4 r pg p x c g w rfl rfl (by decide) hb ?_ ?_
  · intro i hi
    rcases (show i = 0 ∨ i = 1 ∨ i = 2 ∨ i = 3 by omega) with rfl | rfl | rfl | rfl
    · exact enters Tryz.func119 rfl rfl
    · exact enters Tryz.func128 rfl rfl
    · exact enters Tryz.func126 rfl rfl
    · exact enters Tryz.func129 rfl rfl
  · intro i hi hz V hW
    rcases (show i = 0 ∨ i = 1 ∨ i = 2 ∨ i = 3 by omega) with rfl | rfl | rfl | rfl
    · exact made_ok (h.step hW) r pg p x c g
    · exact numbered_any V r pg p x c g hp
    · exact opened_any (h.step hW) r pg p x c g hr
    · exact mapped_ok (h.step hW) r pg p x c g (numE_ok (by have := hz 1 (by decide); exact this)).1 (numE_ok (by have := hz 1 (by decide); exact this)).2
theorem ask_set {W w : World} {tb sb : Nat} {X : PIx} {L : List Int} {R : Nat → Nat} {S : Nat → Bool} (h : Mg W w tb sb X L R S) (b : Nat) (r pg : Int) (p x c : Bool) (g : Int) (hr : I64 r) (hp : I64 pg) (hb : w.heap[b]? = some (.cells #[.func (.func 119) #[.pointer (some ⟨tb, 0, none⟩)] #[], .func (.func 128) #[] #[], .func (.func 134) #[.pointer (some ⟨tb, 0, none⟩)] #[], .func (.func 126) #[.pointer (some ⟨tb, 0, none⟩)] #[], .func (.func 129) #[.pointer (some ⟨tb, 0, none⟩)] #[]] 236 (0, 0))) :
    Calls Tryz.prog 118 #[reqV r pg p x c g, .slice (some ⟨b, 0, none⟩) 5 5] w fun e w' => e = .returned (.int .i64 (firstE [0, numE pg, fitE X.n p x c g, openE S r, mapE X.n L r pg])) ∧ Below w.heap.size w w' := by
  refine ask_any [(119, #[.pointer (some ⟨tb, 0, none⟩)]), (128, #[]), (134, #[.pointer (some ⟨tb, 0, none⟩)]), (126, #[.pointer (some ⟨tb, 0, none⟩)]), (129, #[.pointer (some ⟨tb, 0, none⟩)])] [0, numE pg, fitE X.n p x c g, openE S r, mapE X.n L r pg] b 5 r pg p x c g w rfl rfl (by decide) hb ?_ ?_
  · intro i hi
    rcases (show i = 0 ∨ i = 1 ∨ i = 2 ∨ i = 3 ∨ i = 4 by omega) with rfl | rfl | rfl | rfl | rfl
    · exact enters Tryz.func119 rfl rfl
    · exact enters Tryz.func128 rfl rfl
    · exact enters Tryz.func134 rfl rfl
    · exact enters Tryz.func126 rfl rfl
    · exact enters Tryz.func129 rfl rfl
  · intro i hi hz V hW
    rcases (show i = 0 ∨ i = 1 ∨ i = 2 ∨ i = 3 ∨ i = 4 by omega) with rfl | rfl | rfl | rfl | rfl
    · exact made_ok (h.step hW) r pg p x c g
    · exact numbered_any V r pg p x c g hp
    · exact fits_any (h.step hW) r pg p x c g
    · exact opened_any (h.step hW) r pg p x c g hr
    · exact mapped_ok (h.step hW) r pg p x c g (numE_ok (by have := hz 1 (by decide); exact this)).1 (numE_ok (by have := hz 1 (by decide); exact this)).2
theorem ask_all {W w : World} {tb sb : Nat} {X : PIx} {L : List Int} {R : Nat → Nat} {S : Nat → Bool} (h : Mg W w tb sb X L R S) (b : Nat) (r pg : Int) (p x c : Bool) (g : Int) (hr : I64 r) (hb : w.heap[b]? = some (.cells #[.func (.func 119) #[.pointer (some ⟨tb, 0, none⟩)] #[], .func (.func 126) #[.pointer (some ⟨tb, 0, none⟩)] #[]] 236 (0, 0))) :
    Calls Tryz.prog 118 #[reqV r pg p x c g, .slice (some ⟨b, 0, none⟩) 2 2] w fun e w' => e = .returned (.int .i64 (firstE [0, openE S r])) ∧ Below w.heap.size w w' := by
  refine ask_any [(119, #[.pointer (some ⟨tb, 0, none⟩)]), (126, #[.pointer (some ⟨tb, 0, none⟩)])] [0, openE S r] b 2 r pg p x c g w rfl rfl (by decide) hb ?_ ?_
  · intro i hi
    rcases (show i = 0 ∨ i = 1 by omega) with rfl | rfl
    · exact enters Tryz.func119 rfl rfl
    · exact enters Tryz.func126 rfl rfl
  · intro i hi hz V hW
    rcases (show i = 0 ∨ i = 1 by omega) with rfl | rfl
    · exact made_ok (h.step hW) r pg p x c g
    · exact opened_any (h.step hW) r pg p x c g hr
end Go.Proofs.YtkenipanpimolaaGreatDoor

/- The contracts of package ptable's Query, Set. Condition: the manager lies as New laid it, or there is none, or nobody made it; the listed tables read as laid. -/
namespace Go.Proofs.YtkenipanpimolaaGreatDoor
open Go.RowKit Go.Maps
set_option maxRecDepth 100000

theorem req6 {w : World} {k : Nat} {r pg : Int} {p x c : Bool} {g : Int} {t : TypeId} (h : w.heap[k]? = some (.cells #[.int .i64 r, .int .i64 pg, .bool p, .bool x, .bool c, .int .i64 g] t (0, 0))) :
    w.cell? ⟨k, 0, none⟩ = some (.int .i64 r) ∧ w.cell? ⟨k, 1, none⟩ = some (.int .i64 pg) ∧ w.cell? ⟨k, 2, none⟩ = some (.bool p) ∧ w.cell? ⟨k, 3, none⟩ = some (.bool x) ∧ w.cell? ⟨k, 4, none⟩ = some (.bool c) ∧ w.cell? ⟨k, 5, none⟩ = some (.int .i64 g) := by
  refine ⟨?_, ?_, ?_, ?_, ?_, ?_⟩ <;> (rw [cell_of_row _ _ _ _ _ _ h]; rfl)
/-- Two boxes of a call's own: an entry's, and a request's. -/
structure QSt (w V : World) (e : Ent) (r pg : Int) (p x c : Bool) (g : Int) : Prop where
  below : Below w.heap.size w V
  res : V.heap[w.heap.size]? = some (entO e)
  req : V.heap[w.heap.size + 1]? = some (.cells #[.int .i64 r, .int .i64 pg, .bool p, .bool x, .bool c, .int .i64 g] 202 (0, 0))
theorem QSt.start (w : World) (e : Ent) (r pg : Int) (p x c : Bool) (g : Int) : QSt w ((w.alloc (entO e)).alloc (reqC r pg p x c g)) e r pg p x c g :=
  ⟨below_two w _ _, heap_alloc2_old _ _ _, heap_alloc2_new _ _ _⟩
theorem QSt.step {w V V' : World} {e : Ent} {r pg : Int} {p x c : Bool} {g : Int} (h : QSt w V e r pg p x c g) (hb : Below V.heap.size V V') : QSt w V' e r pg p x c g :=
  ⟨h.below.trans (hb.mono h.below.size), below_block hb h.res, below_block hb h.req⟩
theorem QSt.put {w V : World} {e : Ent} {r pg : Int} {p x c : Bool} {g : Int} (h : QSt w V e r pg p x c g) (e' : Ent) : QSt w (put4b V w.heap.size e') e' r pg p x c g :=
  ⟨put4b_below h.below (Nat.le_refl _), put4b_same h.res, (put4b_other (by omega)).trans h.req⟩
/-- What Query answers. -/
def unmAsk (n : Nat) (L : List Int) (S : Nat → Bool) (r pg : Int) : Int := firstE [0, numE pg, openE S r, mapE n L r pg]
theorem unmAsk_zero {n : Nat} {L : List Int} {S : Nat → Bool} {r pg : Int} (h : unmAsk n L S r pg = 0) : (0 ≤ pg ∧ pg < 1024) ∧ isSp S r = true ∧ (findE n L r pg).2.1 = true := by
  unfold unmAsk firstE at h
  simp only [if_true] at h
  by_cases h1 : numE pg = 0
  · rw [firstE, if_pos h1] at h
    by_cases h2 : openE S r = 0
    · rw [firstE, if_pos h2] at h
      by_cases h3 : mapE n L r pg = 0
      · refine ⟨numE_ok h1, ?_, ?_⟩
        · unfold openE at h2; split at h2
          · assumption
          · exact absurd h2 (by decide)
        · unfold mapE at h3; split at h3
          · assumption
          · exact absurd h3 (by decide)
      · rw [firstE, if_neg h3] at h; exact absurd h h3
    · rw [firstE, if_neg h2] at h; exact absurd h h2
  · rw [firstE, if_neg h1] at h; exact absurd h h1
def qryA (n : Nat) (L : List Int) (S : Nat → Bool) (r pg : Int) : Ent × Bool := if unmAsk n L S r pg = 0 then ((findE n L r pg).2, true) else (z0, false)
set_option maxHeartbeats 2000000 in
theorem query_ok {W w : World} {tb sb : Nat} {X : PIx} {L : List Int} {R : Nat → Nat} {S : Nat → Bool} (h : Mg W w tb sb X L R S) (r pg : Int) (hr : I64 r) (hp : I64 pg) :
    Calls Tryz.prog 95 #[.pointer (some ⟨tb, 0, none⟩), .int .i64 r, .int .i64 pg] w fun e w' => e = .returned (.tuple #[entV (qryA X.n L S r pg).1, .bool (qryA X.n L S r pg).2]) ∧ Below w.heap.size w w' := by
  obtain ⟨wa, hwa⟩ : ∃ wa, wa = (w.alloc (entO z0)).alloc (reqC r pg false false false 0) := ⟨_, rfl⟩
  have Qa : QSt w wa z0 r pg false false false 0 := by rw [hwa]; exact QSt.start _ _ _ _ _ _ _ _
  have hza : wa.heap.size = w.heap.size + 1 + 1 := by rw [hwa]; simp
  obtain ⟨w1, hw1⟩ : ∃ w1, w1 = wa.alloc (.cells #[.func (.func 119) #[.pointer (some ⟨tb, 0, none⟩)] #[], .func (.func 128) #[] #[], .func (.func 126) #[.pointer (some ⟨tb, 0, none⟩)] #[], .func (.func 129) #[.pointer (some ⟨tb, 0, none⟩)] #[]] 236) := ⟨_, rfl⟩
  have Q1 := Lib.hid (Qa.step (V' := w1) (by rw [hw1]; exact (Below.refl _ _).alloc (Nat.le_refl _) _))
  have hs1 : w1.heap[w.heap.size + 1 + 1]? = some (.cells #[.func (.func 119) #[.pointer (some ⟨tb, 0, none⟩)] #[], .func (.func 128) #[] #[], .func (.func 126) #[.pointer (some ⟨tb, 0, none⟩)] #[], .func (.func 129) #[.pointer (some ⟨tb, 0, none⟩)] #[]] 236 (0, 0)) := by rw [hw1, ← hza]; exact heap_alloc_new wa _
  have M1 := Lib.hid (h.step Q1.out.below)
  have ASK := Lib.hid (ask_unmap M1.out (w.heap.size + 1 + 1) r pg false false false 0 hr hp hs1)
  have hmf : ∀ (fn : Fn) (first cap : Array Value) (w : World), (Instr.makeFunc fn first cap).run Tryz.prog w = .ok (.func fn first cap) w := fun _ _ _ _ => rfl
  rw [hwa] at hw1
  clear hs1 h Qa hza hwa
  clear wa
  obtain ⟨k, hk⟩ : ∃ k, k = unmAsk X.n L S r pg := ⟨_, rfl⟩
  have HK := Lib.hid hk
  clear hk
  go_enter Tryz.func95, Tryz.ntmps95
  go_wp2_with fail
  rw [← show w1 = ((w.alloc (.cells #[.bool false, .bool false, .bool false, .int .i64 0] 166)).alloc (.cells #[.int .i64 r, .int .i64 pg, .bool false, .bool false, .bool false, .int .i64 0] 202)).alloc (.cells #[.func (.func 119) #[.pointer (some ⟨tb, 0, none⟩)] #[], .func (.func 128) #[] #[], .func (.func 126) #[.pointer (some ⟨tb, 0, none⟩)] #[], .func (.func 129) #[.pointer (some ⟨tb, 0, none⟩)] #[]] 236) from hw1]
  clear hw1
  refine ASK.out.mono ?_
  rw [show firstE [0, numE pg, openE S r, mapE X.n L r pg] = k from HK.out.symm]
  rintro e w2 ⟨rfl, hb⟩
  have Q2 := Lib.hid (Q1.out.step hb)
  have M2 := Lib.hid (M1.out.step hb)
  clear hb
  obtain ⟨q0, q1, q2, q3, q4, q5⟩ := req6 Q2.out.req
  by_cases h0 : k = 0
  · subst h0
    obtain ⟨⟨n0, n1⟩, hsp, hm⟩ := unmAsk_zero HK.out.symm
    obtain ⟨⟨⟨tp, tx, tc, tg⟩, op, ox, oc, og⟩, he⟩ : ∃ t, t = findE X.n L r pg := ⟨_, rfl⟩
    have HE := Lib.hid he
    have HA : Hid (qryA X.n L S r pg = ((op, ox, oc, og), true)) := Lib.hid (by unfold qryA; rw [← HK.out, if_pos rfl, ← he])
    clear he hsp hm
    go_wp2_with fail
    refine (find_is M2.out r pg false false false 0 n0 n1 HE.out.symm).mono ?_
    rintro e w3 ⟨rfl, hb⟩
    have Q3 := Lib.hid (Q2.out.step hb)
    clear hb q0 q1 q2 q3 q4 q5
    have A4 := Lib.hid (below_two w3 (.cells #[.bool tp, .bool tx, .bool tc, .int .i64 tg] 166) (.cells #[.bool op, .bool ox, .bool oc, .int .i64 og] 166))
    have Q4 := Lib.hid (Q3.out.step A4.out)
    have f0 := frozen_of_row _ w.heap.size 0 _ _ Q4.out.res
    have f1 := frozen_of_row _ w.heap.size 1 _ _ Q4.out.res
    have f2 := frozen_of_row _ w.heap.size 2 _ _ Q4.out.res
    have f3 := frozen_of_row _ w.heap.size 3 _ _ Q4.out.res
    obtain ⟨d0, d1, d2, d3⟩ := cells4 Q4.out.res
    go_wp2
    have Q5 := Q4.out.put (op, ox, oc, og)
    obtain ⟨e0, e1, e2, e3⟩ := cells4 Q5.res
    simp only [put4b] at e0 e1 e2 e3
    refine bodyPost_ret (v := .tuple #[entV (op, ox, oc, og), .bool true]) ?_ rfl ⟨by rw [HA.out], Q5.below⟩
    simp [results, Tryz.results95, go_sem, e0, e1, e2, e3, entV]
  · have hne : (k != 0) = true := by simpa using h0
    have HA : Hid (qryA X.n L S r pg = (z0, false)) := Lib.hid (by unfold qryA; rw [← HK.out, if_neg h0])
    have f0 := frozen_of_row _ w.heap.size 0 _ _ Q2.out.res
    have f1 := frozen_of_row _ w.heap.size 1 _ _ Q2.out.res
    have f2 := frozen_of_row _ w.heap.size 2 _ _ Q2.out.res
    have f3 := frozen_of_row _ w.heap.size 3 _ _ Q2.out.res
    obtain ⟨d0, d1, d2, d3⟩ := cells4 Q2.out.res
    clear q0 q1 q2 q3 q4 q5
    go_wp2
    have Q5 := Q2.out.put z0
    obtain ⟨e0, e1, e2, e3⟩ := cells4 Q5.res
    simp only [put4b, z0] at e0 e1 e2 e3
    refine bodyPost_ret (v := .tuple #[entV z0, .bool false]) ?_ rfl ⟨by rw [HA.out], Q5.below⟩
    simp [results, Tryz.results95, go_sem, e0, e1, e2, e3, entV, z0]
end Go.Proofs.YtkenipanpimolaaGreatDoor
