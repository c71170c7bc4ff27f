/- The contracts of package budget's All, add. Condition: the budget lies as New laid it. -/
import Derived.Test.YtedeifejokcleaaU4
import Derived.Deep.RegionHeld3
import Derived.Deep.AppendLies
import Derived.Deep.RegionLaw
import Derived.Great.BuildSlice
namespace Go.Proofs.Ytedeifejokcleaa
open Go.RowKit Go.Maps
set_option maxRecDepth 100000

theorem nodeInfo : (Try.prog.info? 49).map (fun i => (i.zero, i.size, i.bytes)) = some (some (.agg #[.int .i64 0, .int .i64 0, .int .i64 0, .int .i64 0]), 4, 32) := by kernel_rfl
theorem new_node (w : World) (a b c d : Int) (t : TypeId) : ∀ j u, [Value.int .i64 a, .int .i64 b, .int .i64 c, .int .i64 d][j]? = some u → (w.alloc (.cells #[.int .i64 a, .int .i64 b, .int .i64 c, .int .i64 d] t)).cell? ((⟨w.heap.size, 0, none⟩ : Addr).add j) = some u := fun j u hu => by
  rw [Addr.add_mid, Nat.zero_add, cell_of_row _ _ _ _ _ _ (heap_alloc_new w _)]
  simpa using hu
theorem enters_All1 (args : Array Value) (W : World) : (callFunc 32 args).run Try.prog W = .ok (.enter 32 args) W := enters Try.func32 rfl rfl args W
theorem ownsRow_setBox {w : World} {base k n bl : Nat} {e t : TypeId} {v u : Value} {xs : List Value} {cs : Array Value} (h : w.ownsRow base e k v n xs) (hb : w.heap[bl]? = some (.cells cs t (0, 0))) (hne : e ≠ t) : (w.setCell ⟨bl, 0, none⟩ u).ownsRow base e k v n xs :=
  h.kept (grownBy_setCell w bl 0 u) (by
    cases hv : v.ownBlock with
    | none => exact Or.inl rfl
    | some g =>
      refine Or.inr fun e2 => ?_
      obtain ⟨cs', hcs⟩ := own_block h hv
      cases e2
      rw [hb] at hcs
      cases hcs
      exact hne rfl)
set_option maxHeartbeats 2000000 in
theorem allIt (p bl base k : Nat) (a b c d : Int) (v : Value) (xs : List Value) (w : World) (hn : w.heap[p]? = some (ndO (a, b, c, d))) (hbl : w.heap[bl]? = some (.cells #[v] 28 (0, 0))) (ho : w.ownsRow base 49 4 v k xs) (hk : k ≤ 8) (hbs : base ≤ w.heap.size) :
    Calls Try.prog 32 #[.pointer (some ⟨p, 0, none⟩), .pointer (some ⟨bl, 0, none⟩)] w fun e w' => e = .returned (.tuple #[]) ∧ (∃ v', w'.heap[bl]? = some (.cells #[v'] 28 (0, 0)) ∧ w'.ownsRow base 49 4 v' (k + 1) (xs ++ [.int .i64 a, .int .i64 b, .int .i64 c, .int .i64 d])) ∧ Only w w' (fun i => i = bl ∨ v.ownBlock = some i) := by
  obtain ⟨ie, hi, hi0, hi1, hi2⟩ := info_parts nodeInfo
  obtain ⟨a0, a1, a2, a3, -⟩ := ndO_cells hn
  obtain ⟨d0, f0⟩ := box1 hbl
  simp only at a0 a1 a2 a3
  have hpl := lt_of_block hn
  have hbll := lt_of_block hbl
  have HBL := Lib.hid hbl
  have HO := Lib.hid ho
  have ZB := Lib.hid hbs
  obtain ⟨wa, hwa⟩ : ∃ wa, wa = w.drew.alloc (.cells #[.int .i64 a, .int .i64 b, .int .i64 c, .int .i64 d] 49) := ⟨_, rfl⟩
  have BA : Hid (Below w.heap.size w wa) := Lib.hid (by rw [hwa]; exact (Below.refl _ _).drew.alloc (Nat.le_refl _) _)
  have OA : Hid (wa.ownsRow base 49 4 v k xs) := Lib.hid (own_step ho BA.out)
  have NEWS := Lib.hid (new_node w.drew a b c d 49)
  have ZA : Hid (base ≤ wa.heap.size) := Lib.hid (Nat.le_trans hbs BA.out.size)
  rw [hwa] at OA ZA
  have BA2 := BA
  rw [hwa] at BA2
  clear hn hbl ho hwa hbs
  go_enter Try.func32, Try.ntmps32
  go_wp2_with fail
  go_region_law (first
    | (refine step_append_lies _ (by rfl) _ _ _ (by rfl) base 49 ie (.agg #[.int .i64 0, .int .i64 0, .int .i64 0, .int .i64 0]) 4 32 Try.underlying28 hi hi0 hi1 hi2 rfl (by omega) v k xs (by rfl) OA.out ⟨w.drew.heap.size, 0, none⟩ 1 1 [.int .i64 a, .int .i64 b, .int .i64 c, .int .i64 d] (by rfl) (by rfl) NEWS.out (by simp [Value.oneCell']) (by omega) (by unfold maxLen; omega) (by omega) ZA.out (w.drew.heap.size + 1) (by simp) ?_
       intro gg cap w4 ho hg hat hlt4
       have OO := Lib.hid ho
       have GG := Lib.hid hg
       have hb4 : w4.heap[bl]? = some (.cells #[v] 28 (0, 0)) := (hg.block bl (lt_of_block (below_block BA2.out HBL.out)) (fun e => by
         obtain ⟨cs, hcs⟩ := own_block OA.out e.symm
         rw [below_block BA2.out HBL.out] at hcs
         exact absurd (show (some 28 : Option Nat) = some 49 from congrArg kindOf (Option.some.inj hcs)) (by decide))).trans (below_block BA2.out HBL.out)
       have B4 := Lib.hid hb4
       obtain ⟨y1, f1⟩ := box1 hb4
       clear ho hg hat hb4))
  all_goals
    go_wp2
    go_end0
    refine ⟨rfl, ⟨_, heap_setCell_same _ bl 0 _ _ _ B4.out, ?_⟩, ?_⟩
    · exact ownsRow_setBox OO.out B4.out (by decide)
    · exact ((Only.below BA2.out).trans ((Only.mk GG.out.os GG.out.tape GG.out.output GG.out.size (fun i hi hB => GG.out.block i hi (fun e => hB (Or.inr e.symm)))))).trans (Only.grown (grownBy_setCell _ _ _ _) (Or.inl rfl))

section
variable (w : World) {ops : Array Oper} {rest : List Oper} {o : Oper} {a : Act} {Q : Exit → Act → World → Prop}
theorem wpList_look0 (hg : o.guard = none) (m x : Operand) (hop : o.op = Op.lookup 40 m x false) (b : Nat) (P : Pt) (hm : a.eval m = .map (some b)) (h : PtrsAt w b P) (y : Int) (hx : a.eval x = .int .i64 y) (hy : -9223372036854775808 ≤ y ∧ y ≤ 9223372036854775807) (hc : P y = none)
    (hK : wpList Try.prog ops Q rest (a.put o.dst (.pointer none)) w) : wpList Try.prog ops Q (o :: rest) a w := wpList_ptr_look w hg m x hop b P hm h y hx hy none hc hK
theorem wpList_look1 (hg : o.guard = none) (m x : Operand) (hop : o.op = Op.lookup 40 m x false) (b : Nat) (P : Pt) (hm : a.eval m = .map (some b)) (h : PtrsAt w b P) (y : Int) (hx : a.eval x = .int .i64 y) (hy : -9223372036854775808 ≤ y ∧ y ≤ 9223372036854775807) (p : Nat) (hc : P y = some p)
    (hK : wpList Try.prog ops Q rest (a.put o.dst (.pointer (some ⟨p, 0, none⟩))) w) : wpList Try.prog ops Q (o :: rest) a w := wpList_ptr_look w hg m x hop b P hm h y hx hy (some p) hc hK
theorem wpList_ok0 (hg : o.guard = none) (m x : Operand) (hop : o.op = Op.lookup 40 m x true) (b : Nat) (P : Pt) (hm : a.eval m = .map (some b)) (h : PtrsAt w b P) (y : Int) (hx : a.eval x = .int .i64 y) (hy : -9223372036854775808 ≤ y ∧ y ≤ 9223372036854775807) (hc : P y = none)
    (hK : wpList Try.prog ops Q rest (a.put o.dst (.tuple #[.pointer none, .bool false])) w) : wpList Try.prog ops Q (o :: rest) a w := wpList_ptr_ok w hg m x hop b P hm h y hx hy none hc hK
theorem wpList_ok1 (hg : o.guard = none) (m x : Operand) (hop : o.op = Op.lookup 40 m x true) (b : Nat) (P : Pt) (hm : a.eval m = .map (some b)) (h : PtrsAt w b P) (y : Int) (hx : a.eval x = .int .i64 y) (hy : -9223372036854775808 ≤ y ∧ y ≤ 9223372036854775807) (p : Nat) (hc : P y = some p)
    (hK : wpList Try.prog ops Q rest (a.put o.dst (.tuple #[.pointer (some ⟨p, 0, none⟩), .bool true])) w) : wpList Try.prog ops Q (o :: rest) a w := wpList_ptr_ok w hg m x hop b P hm h y hx hy (some p) hc hK
end

/-- What All has gathered. -/
structure AllSt11 (w : World) (L : List Nd) (j : Int) (V : World) : Prop where
  below : Below w.heap.size w V
  row : ∃ v, V.heap[w.heap.size]? = some (.cells #[v] 28 (0, 0)) ∧ V.ownsRow w.heap.size 49 4 v (preN j L).length (ndsV (preN j L))
theorem all_round {w : World} {b m : Nat} {P : Pt} {L : List Nd} (h : BudAt w b m P L) {j : Int} {V : World} (hV : AllSt11 w L j V) {p : Nat} (hp : P j = some p) :
    Calls Try.prog 32 #[.pointer (some ⟨p, 0, none⟩), .pointer (some ⟨w.heap.size, 0, none⟩)] V fun e w' => e = .returned (.tuple #[]) ∧ AllSt11 w L (j + 1) w' := by
  obtain ⟨v, h1, h2⟩ := hV.row
  obtain ⟨⟨a, b', c, d⟩, hx, hpx⟩ := (h.step hV.below).node hp
  refine (allIt p w.heap.size w.heap.size _ a b' c d v _ V hpx h1 h2 (preN_sub h.good j).2 hV.below.size).mono ?_
  rintro e w' ⟨rfl, ⟨v', h3, h4⟩, h5⟩
  refine ⟨rfl, Only.old hV.below h5 hV.below.size (fun k hk => ?_), v', h3, ?_⟩
  · rcases hk with rfl | hk
    · exact Nat.le_refl _
    · exact (h2.lt k hk).1
  · rw [preN_some h.good hx, List.length_append, ndsV_append, ndsV_one]
    exact h4
theorem hno_of {w : World} {b m : Nat} {P : Pt} {L : List Nd} (h : BudAt w b m P L) {j : Int} (hp : P j = none) : atN j L = none := by
  cases e : atN j L with
  | none => rfl
  | some x =>
    obtain ⟨p', h1, _⟩ := h.inn j x e
    rw [hp] at h1
    cases h1
def AllPost11 (w : World) (L : List Nd) (e : Ending) (w' : World) : Prop := ∃ v, e = .returned v ∧ w'.ownsRow w.heap.size 49 4 v L.length (ndsV L) ∧ Below w.heap.size w w'
set_option maxHeartbeats 1000000 in
theorem allm11_ok {w : World} {b m : Nat} {P : Pt} {L : List Nd} (h : BudAt w b m P L) :
    Calls Try.prog 16 #[.pointer (some ⟨b, 0, none⟩)] w (AllPost11 w L) := by
  have hmf : ∀ (fn : Fn) (first cap : Array Value) (w : World), (Instr.makeFunc fn first cap).run Try.prog w = .ok (.func fn first cap) w := fun _ _ _ _ => rfl
  obtain ⟨w1, hw1⟩ : ∃ w1, w1 = w.alloc (.cells #[.slice none 0 0] 28) := ⟨_, rfl⟩
  have A1 : Hid (AllSt11 w L 1 w1) := Lib.hid (by
    rw [hw1]
    refine ⟨(Below.refl _ _).alloc (Nat.le_refl _) _, _, heap_alloc_new w _, ?_⟩
    rw [preN_one h.good]
    exact World.ownsRow_nil _ _ _ _)
  have H := Lib.hid h
  clear h
  go_enter Try.func16, Try.ntmps16
  go_wp2_with fail
  refine (isThere_ok b m w H.out.cell).mono ?_
  rintro e w' ⟨rfl, rfl⟩
  go_wp2_with fail
  rw [← hw1]
  clear hw1
  refine (each_ok 32 #[.pointer (some ⟨w.heap.size, 0, none⟩)] enters_All1 b m P (AllSt11 w L) _ (fun j V hV => ⟨(H.out.step hV.below).cell, (H.out.step hV.below).map⟩) (fun j p V _ _ hp hV => all_round H.out hV hp) (fun j V _ _ hp hV => ?_) A1.out).mono ?_
  · refine ⟨hV.below, ?_⟩
    rw [preN_no H.out.good (hno_of H.out hp)]
    exact hV.row
  rintro e w2 ⟨rfl, hb, v, h1, h2⟩
  rw [preN_nine H.out.good] at h2
  have B2 := Lib.hid hb
  have R2 := Lib.hid h2
  have c0 := cell_of_one h1
  clear hb h1 h2
  go_wp2
  go_ret
  exact ⟨_, rfl, R2.out, B2.out⟩
theorem allm11_no (p : Option Addr) (w : World) (h : NoBud w p) :
    Calls Try.prog 16 #[.pointer p] w fun e w' => e = .returned (.slice none 0 0) ∧ Below w.heap.size w w' := by
  go_enter Try.func16, Try.ntmps16
  go_wp2_with fail
  refine (isThere_no p w h).mono ?_
  rintro e w' ⟨rfl, rfl⟩
  go_wp2
  go_ret
  exact ⟨rfl, Below.refl _ _⟩

set_option maxHeartbeats 1000000 in
theorem add_raw (b m : Nat) (P : Pt) (id up q : Int) (w : World) (hc : w.cell? ⟨b, 0, none⟩ = some (.map (some m))) (hp : PtrsAt w m P) (hid : 1 ≤ id ∧ id ≤ 8) :
    Calls Try.prog 23 #[.pointer (some ⟨b, 0, none⟩), .int .i64 id, .int .i64 up, .int .i64 q] w fun e w' => e = .returned (.tuple #[]) ∧ PtrsAt w' m (updP P id (some w.heap.size)) ∧ w'.heap[w.heap.size]? = some (ndO (id, up, q, 0)) ∧ w.grownBy w' (some m) := by
  have hml := hp.lt
  obtain ⟨w1, hw1⟩ : ∃ w1, w1 = w.alloc (.cells #[.int .i64 id, .int .i64 up, .int .i64 q, .int .i64 0] 49) := ⟨_, rfl⟩
  have B1 : Hid (Below w.heap.size w w1) := Lib.hid (by rw [hw1]; exact (Below.refl _ _).alloc (Nat.le_refl _) _)
  have N1 : Hid (w1.heap[w.heap.size]? = some (ndO (id, up, q, 0))) := Lib.hid (by rw [hw1]; exact heap_alloc_new w _)
  have P1 : Hid (PtrsAt w1 m P) := Lib.hid (hp.same (B1.out.block m hml))
  rw [hw1] at P1
  have E1 := Lib.hid hw1
  clear hp hw1
  go_enter Try.func23, Try.ntmps23
  go_wp2_with (refine wpList_ptr_put _ rfl (.tmp 11) (.tmp 12) (.tmp 17) rfl m P rfl P1.out id rfl hid w.heap.size rfl ?_; intro w2 hp2 hg2; have P2 := Lib.hid hp2; have G2 := Lib.hid hg2; clear hp2 hg2)
  go_end0
  have hg : w1.grownBy w2 (some m) := by rw [E1.out]; exact G2.out
  exact ⟨rfl, P2.out, (hg.block _ (lt_of_block N1.out) (fun e => by have := Option.some.inj e; omega)).trans N1.out, grownBy_trans (grownBy_of_below B1.out _) hg⟩
theorem BudAt.add {w w' : World} {b m : Nat} {P : Pt} {L : List Nd} (h : BudAt w b m P L) {id up q : Int} (hno : atN id L = none) (hg : Good (insN (id, up, q, 0) L)) (h1 : PtrsAt w' m (updP P id (some w.heap.size))) (h2 : w'.heap[w.heap.size]? = some (ndO (id, up, q, 0))) (h3 : w.grownBy w' (some m)) :
    Turned w w' b m P (insN (id, up, q, 0) L) := by
  refine ⟨⟨_, ⟨(h3.block _ (lt_of_block h.box) (fun e => ?_)).trans h.box, h1, fun i e => ?_, fun i n e => ?_, hg⟩, fun i p e => ?_⟩, Only.grown h3 (Or.inl rfl)⟩
  · exact h.boxOut (Or.inl (Option.some.inj e))
  · rw [atN_insN (atN_none.1 hno)] at e
    split at e
    · cases e
    · rename_i hne
      rw [updP_other _ _ _ hne]
      exact h.out i e
  · rw [atN_insN (atN_none.1 hno)] at e
    split at e
    · rename_i he
      cases e
      exact ⟨w.heap.size, by rw [he]; exact updP_same _ _ _, h2⟩
    · rename_i hne
      obtain ⟨p, hp, hpn⟩ := h.inn i n e
      exact ⟨p, by rw [updP_other _ _ _ hne]; exact hp, (h3.block _ (lt_of_block hpn) (fun e => h.mapOut i (by rw [hp, Option.some.inj e]))).trans hpn⟩
  · by_cases hi : i = id
    · subst hi
      rw [updP_same] at e
      cases e
      exact Or.inr (Nat.le_refl _)
    · rw [updP_other _ _ _ hi] at e
      exact Or.inl e
end Go.Proofs.Ytedeifejokcleaa
