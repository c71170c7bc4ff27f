/- Texts of mine, joined: Z7 Z8 Z14 Z9 Z10 Z11 Z12. What each says and under which conditions stands at its head, below. -/
import Derived.Test.YtkenipanpimolaaGreatDoorHC
import Derived.Laws.AppendOwnNone
/- The document's small functions of layer 16, where there are one space or none. Condition: its world lies in a box. -/
namespace Go.Proofs.YtkenipanpimolaaGreatDoor
open Go.RowKit Go.Maps
set_option maxRecDepth 100000

/-- What an append may take: nil, or cells that are there. -/
def SrcZ (w : World) (sv : Value) (m : Nat) (news : List Value) : Prop := (sv = .slice none 0 0 ∧ m = 0 ∧ news = []) ∨ ∃ ad c, sv = .slice (some ad) m c ∧ ∀ j u, news[j]? = some u → w.cell? (ad.add j) = some u
/-- An append onto one's own row, of nil or of cells. -/
theorem wpList_append_srcZ {P : Program} {w : World} {ops : Array Oper} {rest : List Oper} {o : Oper} {a : Act} {Q : Exit → Act → World → Prop} (hgd : o.guard = none) (s x : Operand) (t : TypeId)
    (ho : o.op = .call { callee := .builtin .append, args := #[s, x], argTypes := #[t, t] })
    (base : Nat) (e : TypeId) (i : TypeInfo) (z : Value) (size bytes : Nat) (ht : P.underlying t = some (.slice e)) (hi : P.info? e = some i) (hz : i.zero = some z)
    (hsize : i.size = size) (hby : i.bytes = bytes) (hzs : z.cells.size = size) (hsz : 0 < size)
    (v : Value) (n : Nat) (xs : List Value) (hs : a.eval s = v) (hown : w.ownsRow base e size v n xs)
    (sv : Value) (m : Nat) (news : List Value) (hx : a.eval x = sv) (hsv : SrcZ w sv m news) (hl : news.length = m * size) (h1 : ∀ u ∈ news, u.oneCell' = true)
    (h63 : n + m ≤ maxLen) (hbytes : (n + m) * bytes ≤ 140737488355328) (hbase : base ≤ w.heap.size)
    (h : ∀ v' w', w'.ownsRow base e size v' (n + m) (xs ++ news) → w.grownBy w' v.ownBlock → wpList P ops Q rest (a.put o.dst v') w') : wpList P ops Q (o :: rest) a w := by
  rcases hsv with ⟨rfl, rfl, rfl⟩ | ⟨ad, c, rfl, hc⟩
  · refine wpList_append_own_none hgd s x t ho base e i size ht hi v n xs hs hown hx (h v w ?_ (grownBy_of_below (Below.refl _ _) _))
    rw [Nat.add_zero, List.append_nil]
    exact hown
  · exact wpList_append_own w hgd s x t ho base e i z size bytes ht hi hz hsize hby hzs hsz v n xs hs hown ad m c news hx hl hc h1 h63 hbytes hbase fun v' w' h2 h3 _ => h v' w' h2 h3
theorem spcInfo : (Tryz.prog.info? 111).map (fun i => (i.zero, i.size, i.bytes)) = some (some (.agg #[.int .i64 0, .slice none 0 0, .slice none 0 0]), 3, 56) := by kernel_rfl
theorem rfitsZ {i : Int} (hi : i = 1 ∨ i = 2) (w : World) : Calls Tryz.prog 40 #[.int .i64 i] w fun e w' => e = .returned (.bool true) ∧ w = w' := by
  rcases hi with rfl | rfl
  all_goals
    go_enter Tryz.func40, Tryz.ntmps40
    go_wp2
    go_ret
    exact ⟨rfl, rfl⟩
theorem rAt0 (nv : Value) (a : Option Addr) (c : Nat) (i : Int) (w : World) : Calls Tryz.prog 42 #[.agg #[nv, .slice a 0 c], .int .i64 i] w fun e w' => e = .returned (.int .i64 (-1)) ∧ Below w.heap.size w w' := by
  have B : Hid (Below w.heap.size w (w.alloc (.cells #[nv, .slice a 0 c] 31))) := Lib.hid ((Below.refl _ _).alloc (Nat.le_refl _) _)
  have c1 : (w.alloc (.cells #[nv, .slice a 0 c] 31)).cell? ⟨w.heap.size, 1, none⟩ = some (.slice a 0 c) := by rw [cell_of_row _ _ _ _ _ _ (heap_alloc_new w _)]; rfl
  go_enter Tryz.func42, Tryz.ntmps42
  go_wp2
  refine wp_loop_rounds 1 ?_
  rw [rounds_succ]
  go_wp2
  go_ret
  exact ⟨rfl, B.out⟩
theorem rAt1 (nv : Value) (b c : Nat) (p i : Int) (w : World) (hc : w.cell? ⟨b, 0, none⟩ = some (.int .i64 p)) : Calls Tryz.prog 42 #[.agg #[nv, .slice (some ⟨b, 0, none⟩) 1 c], .int .i64 i] w fun e w' => e = .returned (.int .i64 (if p = i then 0 else -1)) ∧ Below w.heap.size w w' := by
  have B : Hid (Below w.heap.size w (w.alloc (.cells #[nv, .slice (some ⟨b, 0, none⟩) 1 c] 31))) := Lib.hid ((Below.refl _ _).alloc (Nat.le_refl _) _)
  have c1 : (w.alloc (.cells #[nv, .slice (some ⟨b, 0, none⟩) 1 c] 31)).cell? ⟨w.heap.size, 1, none⟩ = some (.slice (some ⟨b, 0, none⟩) 1 c) := by rw [cell_of_row _ _ _ _ _ _ (heap_alloc_new w _)]; rfl
  have c2 : (w.alloc (.cells #[nv, .slice (some ⟨b, 0, none⟩) 1 c] 31)).cell? ⟨b, 0, none⟩ = some (.int .i64 p) := (B.out.cell (p := ⟨b, 0, none⟩) (block_lt_of_cell (a := ⟨b, 0, none⟩) hc)).trans hc
  clear hc
  by_cases h : p = i
  · have d1 : (p == i) = true := by simpa using h
    rw [if_pos h]
    clear h
    go_enter Tryz.func42, Tryz.ntmps42
    go_wp2
    refine wp_loop_rounds 1 ?_
    rw [rounds_succ]
    go_wp2
    go_ret
    exact ⟨rfl, B.out⟩
  · have d1 : (p == i) = false := by simpa using h
    rw [if_neg h]
    clear h
    go_enter Tryz.func42, Tryz.ntmps42
    go_wp2
    refine wp_loop_rounds 2 ?_
    rw [rounds_succ]
    go_wp2
    rw [rounds_succ]
    go_wp2
    go_ret
    exact ⟨rfl, B.out⟩
theorem rCharged0 (a : Option Addr) (c : Nat) (w : World) : Calls Tryz.prog 59 #[.slice a 0 c] w fun e w' => e = .returned (.int .i64 1) ∧ w = w' := by
  go_enter Tryz.func59, Tryz.ntmps59
  go_wp2
  refine wp_loop_rounds 1 ?_
  rw [rounds_succ]
  go_wp2
  go_ret
  exact ⟨rfl, rfl⟩
set_option maxHeartbeats 2000000 in
theorem rchargeZ {w : World} {wb : Nat} {nv sv : Value} {L : List Nd} {i : Int} (hg : GoodU L) (hb : w.heap[wb]? = some (.cells #[nv, sv] 31 (0, 0))) (ho : w.ownsRow 0 96 4 nv L.length (ndsV L)) (he : chargeEU L i 1 = 0) :
    Calls Tryz.prog 43 #[.pointer (some ⟨wb, 0, none⟩), .int .i64 i, .int .i64 0, .int .i64 1] w fun e w' => ∃ nv', e = .returned (.int .i64 0) ∧ w'.heap[wb]? = some (.cells #[nv', sv] 31 (0, 0)) ∧ w'.ownsRow 0 96 4 nv' (chargeL L i 1).length (ndsV (chargeL L i 1)) ∧ Only w w' (fun k => k = wb) ∧ ∀ g, nv'.ownBlock = some g → nv.ownBlock = some g ∨ w.heap.size ≤ g := by
  have RC := Lib.hid (rcharge11 hg ho (Nat.zero_le _) i 1 he)
  have c0 : w.cell? ⟨wb, 0, none⟩ = some nv := by rw [cell_of_row _ _ _ _ _ _ hb]; rfl
  have HB := Lib.hid hb
  clear hg ho he hb
  go_enter Tryz.func43, Tryz.ntmps43
  go_wp2_with fail
  refine RC.out.mono ?_
  rintro e w1 ⟨v', rfl, ho, hb1, hn⟩
  obtain ⟨a', c', rfl⟩ := (NdsAt.of_row ho).form
  have H1 := below_block hb1 HB.out
  have c1 : w1.cell? ⟨wb, 0, none⟩ = some nv := by rw [cell_of_row _ _ _ _ _ _ H1]; rfl
  have f1 := frozen_of_row w1 wb 0 _ _ H1
  have h2 := heap_setCell_same w1 wb 0 _ _ (.slice a' (chargeL L i 1).length c') H1
  have o2 : Only w1 (w1.setCell ⟨wb, 0, none⟩ (.slice a' (chargeL L i 1).length c')) (fun k => k = wb) := Only.grown (grownBy_setCell _ _ _ _) rfl
  have PP := Lib.hid (And.intro ho (And.intro hb1 (And.intro hn (And.intro H1 (And.intro h2 o2)))))
  clear ho hb1 hn H1 h2 o2 c0
  go_wp2
  go_ret
  obtain ⟨ho, hb1, hn, H1, h2, o2⟩ := PP.out
  refine ⟨_, rfl, h2, ownsRow_only ho o2 fun g hg e => ?_, (Only.below hb1).trans o2, hn⟩
  subst e
  obtain ⟨cs, hcs⟩ := own_block ho hg
  rw [H1] at hcs
  simp only [Option.some.injEq, Obj.cells.injEq] at hcs
  exact absurd hcs.2.1 (by decide)
end Go.Proofs.YtkenipanpimolaaGreatDoor

/- The document's put and set of layer 16, where there are one space or none. Condition: its world lies in a box. -/
namespace Go.Proofs.YtkenipanpimolaaGreatDoor
open Go.RowKit Go.Maps
set_option maxRecDepth 100000

/-- The document's world's box. -/
def boxWd (nv sv : Value) : Obj := .cells #[nv, sv] 31 (0, 0)
theorem srcZ_nil (w : World) : SrcZ w (.slice none 0 0) 0 [] := Or.inl ⟨rfl, rfl, rfl⟩
/-- What put and set leave. -/
def Puts1 (w : World) (wb : Nat) (nv : Value) (i : Int) (av pv : Value) (e : Ending) (w' : World) : Prop := e = .returned (.tuple #[]) ∧ ∃ b c, w'.heap[wb]? = some (boxWd nv (.slice (some ⟨b, 0, none⟩) 1 c)) ∧ w'.ownsRow w.heap.size 111 3 (.slice (some ⟨b, 0, none⟩) 1 c) 1 [.int .i64 i, av, pv] ∧ Only w w' (fun k => k = wb)
theorem puts_end {w w1 w8 : World} {wb : Nat} {nv sv : Value} {i : Int} {aa ap a8 : Option Addr} {an ac pn pc c8 : Nat} (B1 : Below w.heap.size w w1) (hl : wb < w.heap.size) (B8 : Below w1.heap.size w1 w8) (H8 : w8.heap[wb]? = some (boxWd nv sv)) (O8 : w8.ownsRow w1.heap.size 111 3 (.slice a8 1 c8) 1 [.int .i64 i, .slice aa an ac, .slice ap pn pc]) :
    Puts1 w wb nv i (.slice aa an ac) (.slice ap pn pc) (.returned (.tuple #[])) (w8.setCell ⟨wb, 1, none⟩ (.slice a8 1 c8)) := by
  obtain ⟨b, rfl⟩ : ∃ b, a8 = some ⟨b, 0, none⟩ := by
    rcases O8.2 with ⟨_, h⟩ | ⟨g, cap, cur, h, _⟩
    · omega
    · injection h with h1
      exact ⟨g, h1⟩
  have ho : Only w8 (w8.setCell ⟨wb, 1, none⟩ (.slice (some ⟨b, 0, none⟩) 1 c8)) (fun k => k = wb) := Only.grown (grownBy_setCell _ _ _ _) rfl
  refine ⟨rfl, b, c8, heap_setCell_same w8 wb 1 _ _ (.slice (some ⟨b, 0, none⟩) 1 c8) H8, ownsRow_only (own_base O8 B1.size) ho fun g hg e => ?_, (Only.below (B1.trans (B8.mono B1.size))).trans ho⟩
  subst e
  have := (O8.lt g hg).1
  have := B1.size
  omega
theorem row_alloc {w : World} {b : Nat} {cs : List Value} {t : TypeId} {z : Nat × Nat} (h : w.heap[b]? = some (.cells cs.toArray t z)) (j : Nat) (u : Value) (hu : cs[j]? = some u) : w.cell? ((⟨b, 0, none⟩ : Addr).add j) = some u := by
  rw [Addr.add_mid, Nat.zero_add, cell_of_row _ _ _ _ _ _ h]
  simpa using hu
set_option maxHeartbeats 4000000 in
theorem rput0 {w : World} {wb : Nat} {nv : Value} (i : Int) (aa ap : Option Addr) (an ac pn pc : Nat) (hb : w.heap[wb]? = some (boxWd nv (.slice none 0 0))) :
    Calls Tryz.prog 44 #[.pointer (some ⟨wb, 0, none⟩), .agg #[.int .i64 i, .slice aa an ac, .slice ap pn pc]] w (Puts1 w wb nv i (.slice aa an ac) (.slice ap pn pc)) := by
  obtain ⟨ii, hi, hi0, hi1, hi2⟩ := info_parts spcInfo
  obtain ⟨w1, hw1⟩ : ∃ w1, w1 = w.alloc (.cells #[.int .i64 i, .slice aa an ac, .slice ap pn pc] 111) := ⟨_, rfl⟩
  have B1 : Hid (Below w.heap.size w w1) := Lib.hid (by rw [hw1]; exact (Below.refl _ _).alloc (Nat.le_refl _) _)
  have X1 : Hid (w1.heap[w.heap.size]? = some (.cells #[.int .i64 i, .slice aa an ac, .slice ap pn pc] 111 (0, 0))) := Lib.hid (by rw [hw1]; exact heap_alloc_new _ _)
  have HB := Lib.hid (below_block B1.out hb)
  have WL := Lib.hid (lt_of_block hb)
  have c1 : w1.cell? ⟨wb, 1, none⟩ = some (.slice none 0 0) := by rw [cell_of_row _ _ _ _ _ _ HB.out]; rfl
  clear hb
  go_enter Tryz.func44, Tryz.ntmps44
  go_wp2
  rw [← hw1]
  clear hw1
  refine wp_loop_rounds 1 ?_
  rw [rounds_succ]
  go_wp2
  go_quiet (fail)
  obtain ⟨w2, hw2⟩ : ∃ w2, w2 = w1.drewN nq := ⟨_, rfl⟩
  have B2 : Hid (Below w1.heap.size w1 w2) := Lib.hid (by rw [hw2]; exact below_drewN (Below.refl _ _) nq)
  rw [← hw2]
  clear hw2 c1
  have c3 : (w2.alloc (.cells #[] 111)).cell? ⟨wb, 1, none⟩ = some (.slice none 0 0) := by rw [cell_of_row _ _ _ _ _ _ (below_block (B2.out.alloc B2.out.size _) HB.out)]; rfl
  have OM := Lib.hid (World.ownsRow_made (base := w1.heap.size) (e := 111) (size := 3) w2 #[] 0 B2.out.size (by decide) rfl)
  have AM : Hid (Below w1.heap.size w1 (w2.alloc (.cells #[] 111))) := Lib.hid (B2.out.alloc B2.out.size _)
  go_wp2_with (first
    | (at_builtin; refine wpList_append_srcZ rfl (.tmp 28) (.tmp 34) 29 rfl w1.heap.size 111 ii (.agg #[.int .i64 0, .slice none 0 0, .slice none 0 0]) 3 56 Tryz.underlying29 hi hi0 hi1 hi2 rfl (by decide) _ 0 [] rfl OM.out _ 0 [] rfl (srcZ_nil _) rfl (by simp) (by decide) (by decide) AM.out.size ?_; intro v4 w4 ho hg; rw [Nat.zero_add, List.nil_append] at ho; have B4 := Lib.hid (AM.out.grown hg AM.out.size (fun k hk => (OM.out.lt k hk).1)); obtain ⟨a4, c4, rfl⟩ := owns_slice ho; obtain ⟨x0, x1, x2⟩ := cells3 (below_block B4.out X1.out); have O4 := Lib.hid (ho.alloc (.cells #[.int .i64 i, .slice aa an ac, .slice ap pn pc] 111)); have A4 : Hid (Below w1.heap.size w1 (w4.alloc (.cells #[.int .i64 i, .slice aa an ac, .slice ap pn pc] 111))) := Lib.hid (B4.out.alloc B4.out.size _); have N4 := Lib.hid (heap_alloc_new w4 (.cells #[.int .i64 i, .slice aa an ac, .slice ap pn pc] 111)); clear ho hg)
    | (at_builtin; refine wpList_append_own _ rfl (.tmp 36) (.tmp 38) 29 rfl w1.heap.size 111 ii (.agg #[.int .i64 0, .slice none 0 0, .slice none 0 0]) 3 56 Tryz.underlying29 hi hi0 hi1 hi2 rfl (by decide) _ _ _ rfl O4.out ⟨w4.heap.size, 0, none⟩ 1 1 [.int .i64 i, .slice aa an ac, .slice ap pn pc] rfl rfl (row_alloc N4.out) (by simp [Value.oneCell']) (by unfold maxLen; omega) (by omega) A4.out.size ?_; intro v6 w6 ho hg _; have B6 := Lib.hid (A4.out.grown hg A4.out.size (fun k hk => (O4.out.lt k hk).1)); obtain ⟨a6, c6, rfl⟩ := owns_slice ho; have O6 := Lib.hid ho; have c7 : w6.cell? ⟨wb, 1, none⟩ = some (.slice none 0 0) := (by rw [cell_of_row _ _ _ _ _ _ (below_block B6.out HB.out)]; rfl); clear ho hg)
    | (at_builtin; refine wpList_append_srcZ rfl (.tmp 41) (.tmp 47) 29 rfl w1.heap.size 111 ii (.agg #[.int .i64 0, .slice none 0 0, .slice none 0 0]) 3 56 Tryz.underlying29 hi hi0 hi1 hi2 rfl (by decide) _ _ _ rfl O6.out _ 0 [] rfl (srcZ_nil _) rfl (by simp) (by decide) (by decide) B6.out.size ?_; intro v8 w8 ho hg; rw [Nat.add_zero, List.append_nil] at ho; have B8 := Lib.hid (B6.out.grown hg B6.out.size (fun k hk => (O6.out.lt k hk).1)); obtain ⟨a8, c8, rfl⟩ := owns_slice ho; have O8 := Lib.hid ho; have H8 := below_block B8.out HB.out; have c9 : w8.cell? ⟨wb, 1, none⟩ = some (.slice none 0 0) := (by rw [cell_of_row _ _ _ _ _ _ H8]; rfl); have f9 := frozen_of_row w8 wb 1 _ _ H8; clear ho hg))
  go_end0
  exact puts_end B1.out WL.out B8.out H8 O8.out
set_option maxHeartbeats 4000000 in
theorem rput1 {w : World} {wb b c : Nat} {nv : Value} {p i : Int} (hpi : p < i) (ba bp : Option Addr) (bn bc qn qc : Nat) (aa ap : Option Addr) (an ac pn pc : Nat) (hb : w.heap[wb]? = some (boxWd nv (.slice (some ⟨b, 0, none⟩) 1 c))) (ho : w.ownsRow 0 111 3 (.slice (some ⟨b, 0, none⟩) 1 c) 1 [.int .i64 p, .slice ba bn bc, .slice bp qn qc]) :
    Calls Tryz.prog 44 #[.pointer (some ⟨wb, 0, none⟩), .agg #[.int .i64 i, .slice aa an ac, .slice ap pn pc]] w fun e w' => e = .returned (.tuple #[]) ∧ Only w w' (fun k => k = wb) ∧ ∃ a c, w'.heap[wb]? = some (boxWd nv (.slice a 2 c)) := by
  obtain ⟨ii, hi, hi0, hi1, hi2⟩ := info_parts spcInfo
  obtain ⟨w1, hw1⟩ : ∃ w1, w1 = w.alloc (.cells #[.int .i64 i, .slice aa an ac, .slice ap pn pc] 111) := ⟨_, rfl⟩
  have B1 : Hid (Below w.heap.size w w1) := Lib.hid (by rw [hw1]; exact (Below.refl _ _).alloc (Nat.le_refl _) _)
  have X1 : Hid (w1.heap[w.heap.size]? = some (.cells #[.int .i64 i, .slice aa an ac, .slice ap pn pc] 111 (0, 0))) := Lib.hid (by rw [hw1]; exact heap_alloc_new _ _)
  have HB := Lib.hid (below_block B1.out hb)
  obtain ⟨h0, -⟩ | ⟨b', c', he, hc1, hc2, hbl, hcs⟩ := row_all ho
  · cases h0
  obtain ⟨rfl, rfl⟩ : b = b' ∧ c = c' := by
    simp only [Value.slice.injEq, Option.some.injEq, Addr.mk.injEq, and_true, true_and] at he
    exact he
  have SR : Hid (∀ V, Below w1.heap.size w1 V → ∀ j u, [.int .i64 p, .slice ba bn bc, .slice bp qn qc][j]? = some u → V.cell? ((⟨b, 0, none⟩ : Addr).add j) = some u) := Lib.hid fun V hV => hcs V (B1.out.trans (hV.mono B1.out.size))
  have PV : Hid (∀ V, Below w1.heap.size w1 V → V.cell? ⟨wb, 1, none⟩ = some (.slice (some ⟨b, 0, none⟩) 1 c) ∧ V.cell? ⟨b, 0, none⟩ = some (.int .i64 p) ∧ V.cell? ⟨w.heap.size, 0, none⟩ = some (.int .i64 i)) := Lib.hid fun V hV =>
    ⟨by rw [cell_of_row _ _ _ _ _ _ (below_block hV HB.out)]; rfl, by have := SR.out V hV 0 _ rfl; rwa [Addr.add_mid, Nat.zero_add] at this, (cells3 (below_block hV X1.out)).1⟩
  have dpi : decide (p < i) = true := decide_eq_true hpi
  have k1 : (1 : Int) ≤ (c : Int) := by omega
  have EN : Hid (∀ (a8 : Option Addr) (c8 : Nat) (w8 : World), Below w1.heap.size w1 w8 → Only w (w8.setCell ⟨wb, 1, none⟩ (.slice a8 2 c8)) (fun k => k = wb) ∧ ∃ a c, (w8.setCell ⟨wb, 1, none⟩ (.slice a8 2 c8)).heap[wb]? = some (boxWd nv (.slice a 2 c))) := Lib.hid fun a8 c8 w8 hB => ⟨(Only.below (B1.out.trans (hB.mono B1.out.size))).trans (Only.grown (grownBy_setCell _ _ _ _) rfl), a8, c8, heap_setCell_same w8 wb 1 _ _ (.slice a8 2 c8) (below_block hB HB.out)⟩
  obtain ⟨c1, c2, c3⟩ := PV.out w1 (Below.refl _ _)
  clear hb ho hcs he hbl hpi
  go_enter Tryz.func44, Tryz.ntmps44
  go_wp2
  rw [← hw1]
  clear hw1
  refine wp_loop_rounds 2 ?_
  rw [rounds_succ]
  go_wp2
  go_quiet (fail)
  obtain ⟨w2, hw2⟩ : ∃ w2, w2 = w1.drewN nq := ⟨_, rfl⟩
  have B2 : Hid (Below w1.heap.size w1 w2) := Lib.hid (by rw [hw2]; exact below_drewN (Below.refl _ _) nq)
  rw [← hw2]
  clear hw2 c1 c2 c3
  obtain ⟨c1, c2, c3⟩ := PV.out w2 B2.out
  go_wp2
  rw [rounds_succ]
  go_wp2
  go_quiet (fail)
  obtain ⟨w3, hw3⟩ : ∃ w3, w3 = w2.drewN nq := ⟨_, rfl⟩
  have B3 : Hid (Below w1.heap.size w1 w3) := Lib.hid (by rw [hw3]; exact below_drewN B2.out nq)
  rw [← hw3]
  clear hw3 c1 c2 c3
  have OM := Lib.hid (World.ownsRow_made (base := w1.heap.size) (e := 111) (size := 3) w3 #[] 0 B3.out.size (by decide) rfl)
  have AM : Hid (Below w1.heap.size w1 (w3.alloc (.cells #[] 111))) := Lib.hid (B3.out.alloc B3.out.size _)
  obtain ⟨c1, c2, c3⟩ := PV.out _ AM.out
  by_cases hcp : c = 1
  · subst hcp
    go_wp2_with (first
      | (at_builtin; refine wpList_append_own _ rfl (.tmp 28) (.tmp 34) 29 rfl w1.heap.size 111 ii (.agg #[.int .i64 0, .slice none 0 0, .slice none 0 0]) 3 56 Tryz.underlying29 hi hi0 hi1 hi2 rfl (by decide) _ 0 [] rfl OM.out ⟨b, 0, none⟩ 1 _ [.int .i64 p, .slice ba bn bc, .slice bp qn qc] rfl rfl (SR.out _ (AM.out)) (by simp [Value.oneCell']) (by unfold maxLen; omega) (by omega) AM.out.size ?_; intro v4 w4 ho hg _; rw [Nat.zero_add, List.nil_append] at ho; have B4 := Lib.hid (AM.out.grown hg AM.out.size (fun k hk => (OM.out.lt k hk).1)); obtain ⟨a4, c4, rfl⟩ := owns_slice ho; obtain ⟨x0, x1, x2⟩ := cells3 (below_block B4.out X1.out); have O4 := Lib.hid (ho.alloc (.cells #[.int .i64 i, .slice aa an ac, .slice ap pn pc] 111)); have A4 : Hid (Below w1.heap.size w1 (w4.alloc (.cells #[.int .i64 i, .slice aa an ac, .slice ap pn pc] 111))) := Lib.hid (B4.out.alloc B4.out.size _); have N4 := Lib.hid (heap_alloc_new w4 (.cells #[.int .i64 i, .slice aa an ac, .slice ap pn pc] 111)); clear ho hg)
      | (at_builtin; refine wpList_append_own _ rfl (.tmp 36) (.tmp 38) 29 rfl w1.heap.size 111 ii (.agg #[.int .i64 0, .slice none 0 0, .slice none 0 0]) 3 56 Tryz.underlying29 hi hi0 hi1 hi2 rfl (by decide) _ _ _ rfl O4.out ⟨w4.heap.size, 0, none⟩ 1 1 [.int .i64 i, .slice aa an ac, .slice ap pn pc] rfl rfl (row_alloc N4.out) (by simp [Value.oneCell']) (by unfold maxLen; omega) (by omega) A4.out.size ?_; intro v6 w6 ho hg _; have B6 := Lib.hid (A4.out.grown hg A4.out.size (fun k hk => (O4.out.lt k hk).1)); obtain ⟨a6, c6, rfl⟩ := owns_slice ho; have O6 := Lib.hid ho; have c7 : w6.cell? ⟨wb, 1, none⟩ = some (.slice (some ⟨b, 0, none⟩) 1 1) := (by rw [cell_of_row _ _ _ _ _ _ (below_block B6.out HB.out)]; rfl); clear ho hg)
      | (at_builtin; refine wpList_append_own _ rfl (.tmp 41) (.tmp 47) 29 rfl w1.heap.size 111 ii (.agg #[.int .i64 0, .slice none 0 0, .slice none 0 0]) 3 56 Tryz.underlying29 hi hi0 hi1 hi2 rfl (by decide) _ _ _ rfl O6.out ⟨b, 0, none⟩ 0 _ [] rfl rfl (fun j u hu => by cases hu) (fun u hu => by cases hu) (by unfold maxLen; omega) (by omega) B6.out.size ?_; intro v8 w8 ho hg _; have B8 := Lib.hid (B6.out.grown hg B6.out.size (fun k hk => (O6.out.lt k hk).1)); obtain ⟨a8, c8, rfl⟩ := owns_slice ho; have H8 := below_block B8.out HB.out; have c9 : w8.cell? ⟨wb, 1, none⟩ = some (.slice (some ⟨b, 0, none⟩) 1 1) := (by rw [cell_of_row _ _ _ _ _ _ H8]; rfl); have f9 := frozen_of_row w8 wb 1 _ _ H8; clear ho hg H8))
    go_end0
    exact ⟨rfl, EN.out _ _ _ B8.out⟩
  · go_wp2_with (first
      | (at_builtin; refine wpList_append_own _ rfl (.tmp 28) (.tmp 34) 29 rfl w1.heap.size 111 ii (.agg #[.int .i64 0, .slice none 0 0, .slice none 0 0]) 3 56 Tryz.underlying29 hi hi0 hi1 hi2 rfl (by decide) _ 0 [] rfl OM.out ⟨b, 0, none⟩ 1 _ [.int .i64 p, .slice ba bn bc, .slice bp qn qc] rfl rfl (SR.out _ (AM.out)) (by simp [Value.oneCell']) (by unfold maxLen; omega) (by omega) AM.out.size ?_; intro v4 w4 ho hg _; rw [Nat.zero_add, List.nil_append] at ho; have B4 := Lib.hid (AM.out.grown hg AM.out.size (fun k hk => (OM.out.lt k hk).1)); obtain ⟨a4, c4, rfl⟩ := owns_slice ho; obtain ⟨x0, x1, x2⟩ := cells3 (below_block B4.out X1.out); have O4 := Lib.hid (ho.alloc (.cells #[.int .i64 i, .slice aa an ac, .slice ap pn pc] 111)); have A4 : Hid (Below w1.heap.size w1 (w4.alloc (.cells #[.int .i64 i, .slice aa an ac, .slice ap pn pc] 111))) := Lib.hid (B4.out.alloc B4.out.size _); have N4 := Lib.hid (heap_alloc_new w4 (.cells #[.int .i64 i, .slice aa an ac, .slice ap pn pc] 111)); clear ho hg)
      | (at_builtin; refine wpList_append_own _ rfl (.tmp 36) (.tmp 38) 29 rfl w1.heap.size 111 ii (.agg #[.int .i64 0, .slice none 0 0, .slice none 0 0]) 3 56 Tryz.underlying29 hi hi0 hi1 hi2 rfl (by decide) _ _ _ rfl O4.out ⟨w4.heap.size, 0, none⟩ 1 1 [.int .i64 i, .slice aa an ac, .slice ap pn pc] rfl rfl (row_alloc N4.out) (by simp [Value.oneCell']) (by unfold maxLen; omega) (by omega) A4.out.size ?_; intro v6 w6 ho hg _; have B6 := Lib.hid (A4.out.grown hg A4.out.size (fun k hk => (O4.out.lt k hk).1)); obtain ⟨a6, c6, rfl⟩ := owns_slice ho; have O6 := Lib.hid ho; have c7 : w6.cell? ⟨wb, 1, none⟩ = some (.slice (some ⟨b, 0, none⟩) 1 c) := (by rw [cell_of_row _ _ _ _ _ _ (below_block B6.out HB.out)]; rfl); clear ho hg)
      | (at_builtin; refine wpList_append_own _ rfl (.tmp 41) (.tmp 47) 29 rfl w1.heap.size 111 ii (.agg #[.int .i64 0, .slice none 0 0, .slice none 0 0]) 3 56 Tryz.underlying29 hi hi0 hi1 hi2 rfl (by decide) _ _ _ rfl O6.out ⟨b, 3, none⟩ 0 _ [] rfl rfl (fun j u hu => by cases hu) (fun u hu => by cases hu) (by unfold maxLen; omega) (by omega) B6.out.size ?_; intro v8 w8 ho hg _; have B8 := Lib.hid (B6.out.grown hg B6.out.size (fun k hk => (O6.out.lt k hk).1)); obtain ⟨a8, c8, rfl⟩ := owns_slice ho; have H8 := below_block B8.out HB.out; have c9 : w8.cell? ⟨wb, 1, none⟩ = some (.slice (some ⟨b, 0, none⟩) 1 c) := (by rw [cell_of_row _ _ _ _ _ _ H8]; rfl); have f9 := frozen_of_row w8 wb 1 _ _ H8; clear ho hg H8))
    go_end0
    exact ⟨rfl, EN.out _ _ _ B8.out⟩
end Go.Proofs.YtkenipanpimolaaGreatDoor

/- The document's Add of layer 14, of three pages, onto nothing. No condition. -/
namespace Go.Proofs.YtkenipanpimolaaGreatDoor
open Go.RowKit Go.Maps
set_option maxRecDepth 100000

theorem areaInfoZ : (Tryz.prog.info? 62).map (fun i => (i.zero, i.size, i.bytes)) = some (some (.agg #[.int .i64 0, .int .i64 0, .bool false]), 3, 24) := by kernel_rfl
/-- A row of one area of the call's own. -/
def Row3 (base : Nat) (w : World) (v : Value) : Prop := ∃ g c, v = .slice (some ⟨g, 0, none⟩) 1 c ∧ w.ownsRow base 62 3 (.slice (some ⟨g, 0, none⟩) 1 c) 1 [.int .i64 0, .int .i64 3, .bool true]
theorem rcheckZ (w : World) : Calls Tryz.prog 87 #[.slice none 0 0] w fun e w' => e = .returned (.int .i64 0) ∧ w = w' := by
  go_enter Tryz.func87, Tryz.ntmps87
  go_wp2
  refine wp_loop_rounds 1 ?_
  rw [rounds_succ]
  go_wp2
  go_ret
  exact ⟨rfl, rfl⟩
theorem rfits3 (w : World) : Calls Tryz.prog 88 #[.int .i64 0, .int .i64 3] w fun e w' => e = .returned (.bool true) ∧ w = w' := by
  go_enter Tryz.func88, Tryz.ntmps88
  go_wp2
  go_ret
  exact ⟨rfl, rfl⟩
theorem rfew1 (a : Option Addr) (c : Nat) (w : World) : Calls Tryz.prog 90 #[.slice a 1 c] w fun e w' => e = .returned (.tuple #[.slice a 1 c, .int .i64 0]) ∧ w = w' := by
  go_enter Tryz.func90, Tryz.ntmps90
  go_wp2
  go_ret2
  exact ⟨rfl, rfl⟩
set_option maxHeartbeats 4000000 in
theorem rwith3 (w : World) : Calls Tryz.prog 91 #[.slice none 0 0, .agg #[.int .i64 0, .int .i64 3, .bool true]] w fun e w' => ∃ v, e = .returned v ∧ Row3 w.heap.size w' v ∧ Below w.heap.size w w' := by
  obtain ⟨ii, hi, hi0, hi1, hi2⟩ := info_parts areaInfoZ
  obtain ⟨w1, hw1⟩ : ∃ w1, w1 = w.alloc (.cells #[.int .i64 0, .int .i64 3, .bool true] 62) := ⟨_, rfl⟩
  have B1 : Hid (Below w.heap.size w w1) := Lib.hid (by rw [hw1]; exact (Below.refl _ _).alloc (Nat.le_refl _) _)
  have X1 : Hid (w1.heap[w.heap.size]? = some (.cells #[.int .i64 0, .int .i64 3, .bool true] 62 (0, 0))) := Lib.hid (by rw [hw1]; exact heap_alloc_new _ _)
  go_enter Tryz.func91, Tryz.ntmps91
  go_wp2
  rw [← hw1]
  clear hw1
  refine wp_loop_rounds 1 ?_
  rw [rounds_succ]
  go_wp2
  refine wp_loop_rounds 1 ?_
  rw [rounds_succ]
  go_wp2
  go_quiet (fail)
  obtain ⟨w2, hw2⟩ : ∃ w2, w2 = w1.drewN nq := ⟨_, rfl⟩
  have B2 : Hid (Below w1.heap.size w1 w2) := Lib.hid (by rw [hw2]; exact below_drewN (Below.refl _ _) nq)
  rw [← hw2]
  clear hw2
  have OM := Lib.hid (World.ownsRow_made (base := w1.heap.size) (e := 62) (size := 3) w2 #[] 0 B2.out.size (by decide) rfl)
  have AM : Hid (Below w1.heap.size w1 (w2.alloc (.cells #[] 62))) := Lib.hid (B2.out.alloc B2.out.size _)
  go_wp2_with (first
    | (at_builtin; refine wpList_append_srcZ rfl (.tmp 108) (.tmp 111) 108 rfl w1.heap.size 62 ii (.agg #[.int .i64 0, .int .i64 0, .bool false]) 3 24 Tryz.underlying108 hi hi0 hi1 hi2 rfl (by decide) _ 0 [] rfl OM.out _ 0 [] rfl (srcZ_nil _) rfl (by simp) (by decide) (by decide) AM.out.size ?_; intro v4 w4 ho hg; rw [Nat.zero_add, List.nil_append] at ho; have B4 := Lib.hid (AM.out.grown hg AM.out.size (fun k hk => (OM.out.lt k hk).1)); obtain ⟨a4, c4, rfl⟩ := owns_slice ho; obtain ⟨x0, x1, x2⟩ := cells3 (below_block B4.out X1.out); have O4 := Lib.hid (ho.alloc (.cells #[.int .i64 0, .int .i64 3, .bool true] 62)); have A4 : Hid (Below w1.heap.size w1 (w4.alloc (.cells #[.int .i64 0, .int .i64 3, .bool true] 62))) := Lib.hid (B4.out.alloc B4.out.size _); have N4 := Lib.hid (heap_alloc_new w4 (.cells #[.int .i64 0, .int .i64 3, .bool true] 62)); clear ho hg)
    | (at_builtin; refine wpList_append_own _ rfl (.tmp 113) (.tmp 115) 108 rfl w1.heap.size 62 ii (.agg #[.int .i64 0, .int .i64 0, .bool false]) 3 24 Tryz.underlying108 hi hi0 hi1 hi2 rfl (by decide) _ _ _ rfl O4.out ⟨w4.heap.size, 0, none⟩ 1 1 [.int .i64 0, .int .i64 3, .bool true] rfl rfl (row_alloc N4.out) (by simp [Value.oneCell']) (by unfold maxLen; omega) (by omega) A4.out.size ?_; intro v6 w6 ho hg _; have B6 := Lib.hid (A4.out.grown hg A4.out.size (fun k hk => (O4.out.lt k hk).1)); obtain ⟨a6, c6, rfl⟩ := owns_slice ho; have O6 := Lib.hid ho; clear ho hg)
    | (at_builtin; refine wpList_append_srcZ rfl (.tmp 117) (.tmp 120) 108 rfl w1.heap.size 62 ii (.agg #[.int .i64 0, .int .i64 0, .bool false]) 3 24 Tryz.underlying108 hi hi0 hi1 hi2 rfl (by decide) _ _ _ rfl O6.out _ 0 [] rfl (srcZ_nil _) rfl (by simp) (by decide) (by decide) B6.out.size ?_; intro v8 w8 ho hg; rw [Nat.add_zero, List.append_nil] at ho; have B8 := Lib.hid (B6.out.grown hg B6.out.size (fun k hk => (O6.out.lt k hk).1)); obtain ⟨a8, c8, rfl⟩ := owns_slice ho; have O8 := Lib.hid ho; clear ho hg))
  go_ret
  obtain ⟨g, rfl⟩ : ∃ g, a8 = some ⟨g, 0, none⟩ := by
    rcases O8.out.2 with ⟨_, h⟩ | ⟨g, cap, cur, h, _⟩
    · omega
    · injection h with h1
      exact ⟨g, h1⟩
  exact ⟨_, rfl, ⟨g, c8, rfl, own_base O8.out B1.out.size⟩, B1.out.trans (B8.out.mono B1.out.size)⟩
set_option maxHeartbeats 2000000 in
theorem rAdd3 (w : World) : Calls Tryz.prog 49 #[.slice none 0 0, .agg #[.int .i64 0, .int .i64 3, .bool true]] w fun e w' => ∃ a c, e = .returned (.tuple #[.slice a 1 c, .int .i64 0]) ∧ Row3 w.heap.size w' (.slice a 1 c) ∧ Below w.heap.size w w' := by
  obtain ⟨w1, hw1⟩ : ∃ w1, w1 = w.alloc (.cells #[.int .i64 0, .int .i64 3, .bool true] 62) := ⟨_, rfl⟩
  have B1 : Hid (Below w.heap.size w w1) := Lib.hid (by rw [hw1]; exact (Below.refl _ _).alloc (Nat.le_refl _) _)
  obtain ⟨x0, x1, x2⟩ := cells3 (show w1.heap[w.heap.size]? = some (.cells #[.int .i64 0, .int .i64 3, .bool true] 62 (0, 0)) by rw [hw1]; exact heap_alloc_new _ _)
  have CK := Lib.hid (rcheckZ w1)
  have FT := Lib.hid (rfits3 w1)
  have WI := Lib.hid (rwith3 w1)
  go_enter Tryz.func49, Tryz.ntmps49
  go_wp2_with fail
  rw [← hw1]
  clear hw1
  refine CK.out.mono ?_
  rintro e w2 ⟨rfl, rfl⟩
  go_wp2_with fail
  refine FT.out.mono ?_
  rintro e w2 ⟨rfl, rfl⟩
  go_wp2_with fail
  refine wp_loop_rounds 1 ?_
  rw [rounds_succ]
  go_wp2_with fail
  refine WI.out.mono ?_
  rintro e w2 ⟨v, rfl, ⟨g, c, rfl, ho⟩, hb⟩
  have O2 := Lib.hid ho
  have B2 := Lib.hid hb
  have FW := Lib.hid (rfew1 (some ⟨g, 0, none⟩) c w2)
  clear ho hb
  go_wp2_with fail
  refine FW.out.mono ?_
  rintro e w3 ⟨rfl, rfl⟩
  go_wp2
  go_ret2
  exact ⟨_, _, rfl, ⟨g, c, rfl, own_base O2.out B1.out.size⟩, B1.out.trans (B2.out.mono B1.out.size)⟩
end Go.Proofs.YtkenipanpimolaaGreatDoor

/- The document's set of layer 16, of the first space. Condition: its world lies in a box. -/
namespace Go.Proofs.YtkenipanpimolaaGreatDoor
open Go.RowKit Go.Maps
set_option maxRecDepth 100000

set_option maxHeartbeats 4000000 in
theorem rset1 {w : World} {wb b c : Nat} {nv : Value} {p : Int} (i : Int) (ba bp : Option Addr) (bn bc qn qc : Nat) (aa ap : Option Addr) (an ac pn pc : Nat) (hb : w.heap[wb]? = some (boxWd nv (.slice (some ⟨b, 0, none⟩) 1 c))) (ho : w.ownsRow 0 111 3 (.slice (some ⟨b, 0, none⟩) 1 c) 1 [.int .i64 p, .slice ba bn bc, .slice bp qn qc]) :
    Calls Tryz.prog 50 #[.pointer (some ⟨wb, 0, none⟩), .int .i64 0, .agg #[.int .i64 i, .slice aa an ac, .slice ap pn pc]] w (Puts1 w wb nv i (.slice aa an ac) (.slice ap pn pc)) := by
  obtain ⟨ii, hi, hi0, hi1, hi2⟩ := info_parts spcInfo
  obtain ⟨w1, hw1⟩ : ∃ w1, w1 = w.alloc (.cells #[.int .i64 i, .slice aa an ac, .slice ap pn pc] 111) := ⟨_, rfl⟩
  have B1 : Hid (Below w.heap.size w w1) := Lib.hid (by rw [hw1]; exact (Below.refl _ _).alloc (Nat.le_refl _) _)
  have X1 : Hid (w1.heap[w.heap.size]? = some (.cells #[.int .i64 i, .slice aa an ac, .slice ap pn pc] 111 (0, 0))) := Lib.hid (by rw [hw1]; exact heap_alloc_new _ _)
  have HB := Lib.hid (below_block B1.out hb)
  have WL := Lib.hid (lt_of_block hb)
  obtain ⟨h0, -⟩ | ⟨b', c', he, hc1, hc2, hbl, hcs⟩ := row_all ho
  · cases h0
  obtain ⟨rfl, rfl⟩ : b = b' ∧ c = c' := by
    simp only [Value.slice.injEq, Option.some.injEq, Addr.mk.injEq, and_true, true_and] at he
    exact he
  have SR : Hid (∀ V, Below w1.heap.size w1 V → ∀ j u, [.int .i64 p, .slice ba bn bc, .slice bp qn qc][j]? = some u → V.cell? ((⟨b, 0, none⟩ : Addr).add j) = some u) := Lib.hid fun V hV => hcs V (B1.out.trans (hV.mono B1.out.size))
  have OM := Lib.hid (World.ownsRow_made (base := w1.heap.size) (e := 111) (size := 3) w1 #[] 0 (Nat.le_refl _) (by decide) rfl)
  have AM : Hid (Below w1.heap.size w1 (w1.alloc (.cells #[] 111))) := Lib.hid ((Below.refl _ _).alloc (Nat.le_refl _) _)
  have c1 : (w1.alloc (.cells #[] 111)).cell? ⟨wb, 1, none⟩ = some (.slice (some ⟨b, 0, none⟩) 1 c) := by rw [cell_of_row _ _ _ _ _ _ (below_block AM.out HB.out)]; rfl
  have hz1 : w1.heap.size = w.heap.size + 1 := by rw [hw1]; simp
  have HB1 : Hid (∀ V, Below w1.heap.size w1 V → V.heap[wb]? = some (boxWd nv (.slice (some ⟨b, 0, none⟩) 1 c)) ∧ V.heap[w.heap.size]? = some (.cells #[.int .i64 i, .slice aa an ac, .slice ap pn pc] 111 (0, 0)) ∧ Below w.heap.size w V) := Lib.hid fun V hV => ⟨below_block hV HB.out, below_block hV X1.out, B1.out.trans (hV.mono B1.out.size)⟩
  rw [hz1] at OM AM SR HB1
  clear hb ho hcs he hbl HB X1 B1 hz1
  subst hw1
  go_enter Tryz.func50, Tryz.ntmps50
  go_wp2_with (first
    | (at_builtin; refine wpList_append_own _ rfl (.tmp 7) (.tmp 11) 29 rfl _ 111 ii (.agg #[.int .i64 0, .slice none 0 0, .slice none 0 0]) 3 56 Tryz.underlying29 hi hi0 hi1 hi2 rfl (by decide) _ 0 [] rfl OM.out ⟨b, 0, none⟩ 1 _ [.int .i64 p, .slice ba bn bc, .slice bp qn qc] rfl rfl (SR.out _ (AM.out)) (by simp [Value.oneCell']) (by unfold maxLen; omega) (by omega) (by simp) ?_; intro v4 w4 ho hg _; rw [Nat.zero_add, List.nil_append] at ho; have B4 := Lib.hid (AM.out.grown hg (by simp) (fun k hk => (OM.out.lt k hk).1)); obtain ⟨a4, c4, rfl⟩ := owns_slice ho; have O4 := Lib.hid ho; obtain ⟨H4, X4, D4⟩ := HB1.out _ B4.out; have HX4 := Lib.hid (And.intro H4 (And.intro X4 D4)); have c5 : w4.cell? ⟨wb, 1, none⟩ = some (.slice (some ⟨b, 0, none⟩) 1 c) := (by rw [cell_of_row _ _ _ _ _ _ H4]; rfl); have f5 := frozen_of_row w4 wb 1 _ _ H4; clear ho hg H4 X4 D4))
  obtain ⟨W, hW⟩ : ∃ W, W = w4.setCell ⟨wb, 1, none⟩ (.slice a4 1 c4) := ⟨_, rfl⟩
  obtain ⟨-, b4, c4', hbx, hrow, honly⟩ := puts_end (Below.refl _ w) WL.out HX4.out.2.2 HX4.out.1 (own_base O4.out (by omega))
  have hX : W.heap[w.heap.size]? = some (.cells #[.int .i64 i, .slice aa an ac, .slice ap pn pc] 111 (0, 0)) := by rw [hW]; exact (Below.heap_setCell _ _ _ _ (by have := WL.out; simp only; omega)).trans HX4.out.2.1
  rw [← hW] at hbx hrow honly
  have e1 : W.heap[wb]? = some (boxWd nv (.slice a4 1 c4)) := by rw [hW]; exact heap_setCell_same w4 wb 1 _ _ (.slice a4 1 c4) HX4.out.1
  rw [hbx] at e1
  obtain ⟨rfl, rfl⟩ : a4 = some ⟨b4, 0, none⟩ ∧ c4 = c4' := by
    simp [boxWd] at e1
    exact ⟨e1.1.symm, e1.2.symm⟩
  have c6 : W.cell? ⟨wb, 1, none⟩ = some (.slice (some ⟨b4, 0, none⟩) 1 c4) := by rw [cell_of_row _ _ _ _ _ _ hbx]; rfl
  obtain ⟨x0, x1, x2⟩ := cells3 hX
  rw [← hW]
  clear hW e1 c5 f5 c1
  refine wp_region_still_tail 7 (by kernel_rfl) (by kernel_rfl) ?_
  simp only [List.take_succ_cons, List.take_zero, List.drop_succ_cons, List.drop_zero]
  repeat still_step
  refine wpStill_nil ?_
  have y0 : W.cell? ⟨b4, 0, none⟩ = _ := hrow.cells (g := b4) rfl 0 _ rfl
  have y1 : W.cell? ⟨b4, 1, none⟩ = _ := hrow.cells (g := b4) rfl 1 _ rfl
  have y2 : W.cell? ⟨b4, 2, none⟩ = _ := hrow.cells (g := b4) rfl 2 _ rfl
  obtain ⟨cs4, hcs4⟩ := own_block hrow (g := b4) rfl
  have g0 := frozen_of_row W b4 0 _ _ hcs4
  have g1 := frozen_of_row W b4 1 _ _ hcs4
  have g2 := frozen_of_row W b4 2 _ _ hcs4
  go_wp2
  go_end0
  have hb4 : w.heap.size ≤ b4 := (hrow.lt b4 rfl).1
  have hwl := WL.out
  have st : ∀ (V : World) (j : Nat) (v : Value), Only V (V.setCell ⟨b4, j, none⟩ v) (fun k => k = b4) := fun V j v => Only.grown (grownBy_setCell _ _ _ _) rfl
  have o3 := ((st W 0 (.int .i64 i)).trans (st _ 1 (.slice aa an ac))).trans (st _ 2 (.slice ap pn pc))
  exact ⟨rfl, b4, c4, o3.kept hbx (by omega), own_set (j := 2) (own_set (j := 1) (own_set (j := 0) hrow (.int .i64 i)) (.slice aa an ac)) (.slice ap pn pc), ⟨o3.os.trans honly.os, o3.tape.trans honly.tape, o3.output.trans honly.output, Nat.le_trans honly.size o3.size, fun k hk hB => (o3.block k (Nat.lt_of_lt_of_le hk honly.size) (by omega)).trans (honly.block k hk hB)⟩⟩
end Go.Proofs.YtkenipanpimolaaGreatDoor

/- The document's Open and Grow of layer 16, of the first space. Condition: its world lies in a box. -/
namespace Go.Proofs.YtkenipanpimolaaGreatDoor
open Go.RowKit Go.Maps
set_option maxRecDepth 100000

/-- The document's world: its containers, one space. -/
structure DocW (w : World) (wb : Nat) (nv : Value) (L : List Nd) (i : Int) (av : Value) (b c : Nat) : Prop where
  box : w.heap[wb]? = some (boxWd nv (.slice (some ⟨b, 0, none⟩) 1 c))
  nds : w.ownsRow 0 96 4 nv L.length (ndsV L)
  spc : w.ownsRow 0 111 3 (.slice (some ⟨b, 0, none⟩) 1 c) 1 [.int .i64 i, av, .slice none 0 0]
theorem nds_only {w w' : World} {wb : Nat} {nv a b : Value} {L : List Nd} (ho : w.ownsRow 0 96 4 nv L.length (ndsV L)) (hb : w.heap[wb]? = some (boxWd a b)) (h : Only w w' (fun k => k = wb)) : w'.ownsRow 0 96 4 nv L.length (ndsV L) :=
  ownsRow_only ho h fun g hg e => by
    subst e
    obtain ⟨cs, hcs⟩ := own_block ho hg
    rw [hb] at hcs
    simp only [boxWd, Option.some.injEq, Obj.cells.injEq] at hcs
    exact absurd hcs.2.1 (by decide)
theorem row3_only {w w' : World} {wb : Nat} {v a b : Value} (h : Row3 0 w v) (hb : w.heap[wb]? = some (boxWd a b)) (ho : Only w w' (fun k => k = wb)) : Row3 0 w' v := by
  obtain ⟨g, c, rfl, hr⟩ := h
  refine ⟨g, c, rfl, ownsRow_only hr ho fun k hk e => ?_⟩
  subst e
  obtain ⟨cs, hcs⟩ := own_block hr hk
  rw [hb] at hcs
  simp only [boxWd, Option.some.injEq, Obj.cells.injEq] at hcs
  exact absurd hcs.2.1 (by decide)
set_option maxHeartbeats 4000000 in
theorem ropenZ {w : World} {wb : Nat} {nv : Value} {L : List Nd} {x : Nd} (hg : GoodU L) (hx : atN 1 L = some x) (he : chargeEU L 1 1 = 0) (hb : w.heap[wb]? = some (boxWd nv (.slice none 0 0))) (ho : w.ownsRow 0 96 4 nv L.length (ndsV L)) :
    Calls Tryz.prog 17 #[.pointer (some ⟨wb, 0, none⟩), .int .i64 1] w fun e w' => ∃ nv' b c, e = .returned (.int .i64 0) ∧ DocW w' wb nv' (chargeL L 1 1) 1 (.slice none 0 0) b c ∧ Only w w' (fun k => k = wb) ∧ ∀ g, nv'.ownBlock = some g → nv.ownBlock = some g ∨ w.heap.size ≤ g := by
  have FT := Lib.hid (rfitsZ (Or.inl rfl) w)
  have AT := Lib.hid (rat11 L nv 1 w (Nat.le_trans hg.len (by decide)) (NdsAt.of_row ho) (atI_some hx))
  obtain ⟨k, hk⟩ : ∃ k, k = posN 1 L := ⟨_, rfl⟩
  rw [← hk] at AT
  have d1 : decide ((k : Int) < 0) = false := decide_eq_false (by omega)
  have A0 := Lib.hid (rAt0 nv none 0 1 w)
  have HB := Lib.hid hb
  have HO := Lib.hid ho
  have c0 : w.cell? ⟨wb, 0, none⟩ = some nv := by rw [cell_of_row _ _ _ _ _ _ hb]; rfl
  have c1 : w.cell? ⟨wb, 1, none⟩ = some (.slice none 0 0) := by rw [cell_of_row _ _ _ _ _ _ hb]; rfl
  have CH := Lib.hid (fun V (hV : Below w.heap.size w V) => rchargeZ (i := 1) hg (below_block hV hb) (own_step ho hV) he)
  clear hb ho hk hx he hg
  go_enter Tryz.func17, Tryz.ntmps17
  go_wp2_with fail
  refine FT.out.mono ?_
  rintro e w1 ⟨rfl, rfl⟩
  go_wp2_with fail
  refine AT.out.mono ?_
  rintro e w1 ⟨rfl, rfl⟩
  go_wp2_with fail
  refine A0.out.mono ?_
  rintro e w1 ⟨rfl, hb1⟩
  have B1 := Lib.hid hb1
  clear hb1
  go_wp2_with fail
  refine (CH.out w1 B1.out).mono ?_
  rintro e w2 ⟨nv', rfl, h2, o2, l2, n2⟩
  have P2 := Lib.hid (rput0 (i := 1) none none 0 0 0 0 h2)
  have K2 := Lib.hid (And.intro h2 (And.intro o2 (And.intro l2 n2)))
  clear h2 o2 l2 n2
  go_wp2_with fail
  refine P2.out.mono ?_
  rintro e w3 ⟨rfl, b, c, h3, o3, l3⟩
  have K3 := Lib.hid (And.intro h3 (And.intro o3 l3))
  clear h3 o3 l3
  go_wp2
  go_ret
  obtain ⟨h2, o2, l2, n2⟩ := K2.out
  obtain ⟨h3, o3, l3⟩ := K3.out
  have s1 := B1.out.size
  refine ⟨nv', b, c, rfl, ⟨h3, nds_only o2 h2 l3, own_base o3 (Nat.zero_le _)⟩, (Only.below B1.out).trans (l2.trans l3), fun g hgg => (n2 g hgg).imp id fun h => Nat.le_trans s1 h⟩
theorem raskedZ {w : World} {nv : Value} {b c : Nat} (hc : w.cell? ⟨b, 0, none⟩ = some (.int .i64 1)) : Calls Tryz.prog 48 #[.agg #[nv, .slice (some ⟨b, 0, none⟩) 1 c], .int .i64 1] w fun e w' => e = .returned (.int .i64 0) ∧ Below w.heap.size w w' := by
  obtain ⟨w1, hw1⟩ : ∃ w1, w1 = w.alloc (.cells #[nv, .slice (some ⟨b, 0, none⟩) 1 c] 31) := ⟨_, rfl⟩
  have B : Hid (Below w.heap.size w w1) := Lib.hid (by rw [hw1]; exact (Below.refl _ _).alloc (Nat.le_refl _) _)
  have c0 : w1.cell? ⟨w.heap.size, 0, none⟩ = some nv := by rw [hw1, cell_of_row _ _ _ _ _ _ (heap_alloc_new w _)]; rfl
  have c1 : w1.cell? ⟨w.heap.size, 1, none⟩ = some (.slice (some ⟨b, 0, none⟩) 1 c) := by rw [hw1, cell_of_row _ _ _ _ _ _ (heap_alloc_new w _)]; rfl
  have FT := Lib.hid (rfitsZ (Or.inl rfl) w1)
  have AT := Lib.hid (rAt1 nv b c 1 1 w1 ((B.out.cell (p := ⟨b, 0, none⟩) (block_lt_of_cell (a := ⟨b, 0, none⟩) hc)).trans hc))
  rw [if_pos rfl] at AT
  clear hc
  go_enter Tryz.func48, Tryz.ntmps48
  go_wp2_with fail
  rw [← hw1]
  refine FT.out.mono ?_
  rintro e w2 ⟨rfl, rfl⟩
  clear hw1
  go_wp2_with fail
  refine AT.out.mono ?_
  rintro e w2 ⟨rfl, hb⟩
  have B2 := Lib.hid (B.out.trans (hb.mono B.out.size))
  clear hb
  go_wp2
  go_ret
  exact ⟨rfl, B2.out⟩
end Go.Proofs.YtkenipanpimolaaGreatDoor

/- The document's Grow of layer 16, of the first space, by three pages. Condition: its world lies in a box. -/
namespace Go.Proofs.YtkenipanpimolaaGreatDoor
open Go.RowKit Go.Maps
set_option maxRecDepth 100000

theorem drewZ_then {w w' : World} (h : Below w.drew.heap.size w.drew w') : Below w.heap.size w w' := (Below.refl _ w).drew.trans h
set_option maxHeartbeats 4000000 in
theorem rgrowZ {w : World} {wb : Nat} {nv : Value} {L : List Nd} {b c : Nat} (h : DocW w wb nv L 1 (.slice none 0 0) b c) :
    Calls Tryz.prog 19 #[.pointer (some ⟨wb, 0, none⟩), .int .i64 1, .agg #[.int .i64 0, .int .i64 3, .bool true]] w fun e w' => ∃ a1 c1 b' c', e = .returned (.int .i64 0) ∧ DocW w' wb nv L 1 (.slice a1 1 c1) b' c' ∧ Row3 0 w' (.slice a1 1 c1) ∧ Only w w' (fun k => k = wb) := by
  obtain ⟨hb, ho, hs⟩ := h
  obtain ⟨w1, hw1⟩ : ∃ w1, w1 = w.alloc (.cells #[.int .i64 0, .int .i64 3, .bool true] 62) := ⟨_, rfl⟩
  have B1 : Hid (Below w.heap.size w w1) := Lib.hid (by rw [hw1]; exact (Below.refl _ _).alloc (Nat.le_refl _) _)
  have X1 : Hid (w1.heap[w.heap.size]? = some (.cells #[.int .i64 0, .int .i64 3, .bool true] 62 (0, 0))) := Lib.hid (by rw [hw1]; exact heap_alloc_new _ _)
  obtain ⟨h0, -⟩ | ⟨b', c', he, hc1, hc2, hbl, hcs⟩ := row_all hs
  · cases h0
  obtain ⟨rfl, rfl⟩ : b = b' ∧ c = c' := by
    simp only [Value.slice.injEq, Option.some.injEq, Addr.mk.injEq, and_true, true_and] at he
    exact he
  have PV : Hid (∀ V, Below w1.heap.size w1 V → (V.cell? ⟨wb, 0, none⟩ = some nv ∧ V.cell? ⟨wb, 1, none⟩ = some (.slice (some ⟨b, 0, none⟩) 1 c)) ∧ (V.cell? ⟨b, 0, none⟩ = some (.int .i64 1) ∧ V.cell? ⟨b, 1, none⟩ = some (.slice none 0 0) ∧ V.cell? ⟨b, 2, none⟩ = some (.slice none 0 0)) ∧ (V.cell? ⟨w.heap.size, 0, none⟩ = some (.int .i64 0) ∧ V.cell? ⟨w.heap.size, 1, none⟩ = some (.int .i64 3) ∧ V.cell? ⟨w.heap.size, 2, none⟩ = some (.bool true)) ∧ Below w.heap.size w V) := Lib.hid fun V hV => by
    have hB := B1.out.trans (hV.mono B1.out.size)
    have k := fun j u hu => hcs V hB j u hu
    simp only [Addr.add_mid, Nat.zero_add] at k
    exact ⟨⟨by rw [cell_of_row _ _ _ _ _ _ (below_block hB hb)]; rfl, by rw [cell_of_row _ _ _ _ _ _ (below_block hB hb)]; rfl⟩, ⟨k 0 _ rfl, k 1 _ rfl, k 2 _ rfl⟩, cells3 (below_block hV X1.out), hB⟩
  have RS := Lib.hid (fun V (hV : Below w.heap.size w V) (a1 : Option Addr) (n1 c1 : Nat) => rset1 1 none none 0 0 0 0 a1 none n1 c1 0 0 (below_block hV hb) (own_step hs hV))
  have ND := Lib.hid (fun V (hV : Below w.heap.size w V) => own_step ho hV)
  have BX := Lib.hid (fun V (hV : Below w.heap.size w V) => below_block hV hb)
  clear hb ho hs hcs he hbl X1
  obtain ⟨⟨d0, d1⟩, ⟨e0, e1, e2⟩, ⟨x0, x1, x2⟩, -⟩ := PV.out w1 (Below.refl _ _)
  have AS := Lib.hid (raskedZ (nv := nv) (c := c) e0)
  rw [hw1] at d0 d1
  go_enter Tryz.func19, Tryz.ntmps19
  go_wp2_with fail
  rw [← hw1]
  refine AS.out.mono ?_
  rintro e w2 ⟨rfl, hb2⟩
  have B2 := Lib.hid hb2
  clear hw1 d0 d1 e0 e1 e2 x0 x1 x2 hb2
  obtain ⟨⟨d0, d1⟩, ⟨e0, e1, e2⟩, ⟨x0, x1, x2⟩, -⟩ := PV.out w2 B2.out
  have AT := Lib.hid (rAt1 nv b c 1 1 w2 e0)
  rw [if_pos rfl] at AT
  go_wp2_with fail
  refine AT.out.mono ?_
  rintro e w3 ⟨rfl, hb3⟩
  have B3 := Lib.hid (B2.out.trans (hb3.mono B2.out.size))
  clear d0 d1 e0 e1 e2 x0 x1 x2 hb3
  obtain ⟨⟨d0, d1⟩, ⟨e0, e1, e2⟩, ⟨x0, x1, x2⟩, b3⟩ := PV.out w3 B3.out
  have AD := Lib.hid (rAdd3 w3.drew)
  have D3 := Lib.hid b3
  clear b3
  go_wp2
  go_region_held3 (fun V => V.cell? ⟨wb, 1, none⟩ = some (.slice (some ⟨b, 0, none⟩) 1 c) ∧ V.cell? ⟨b, 1, none⟩ = some (.slice none 0 0) ∧ V.cell? ⟨w.heap.size, 0, none⟩ = some (.int .i64 0) ∧ V.cell? ⟨w.heap.size, 1, none⟩ = some (.int .i64 3) ∧ V.cell? ⟨w.heap.size, 2, none⟩ = some (.bool true)) (first | go_keep | exact ⟨d1, e1, x0, x1, x2⟩)
    (first
      | (go_at_call 49; with_reducible refine AD.out.mono ?_; rintro e w4 ⟨a1, c1, rfl, hat, hb4⟩; have B4 : Hid (Below w1.heap.size w1 w4) := Lib.hid (B3.out.trans ((drewZ_then hb4).mono B3.out.size)); have A4 := Lib.hid hat; clear d0 d1 e0 e1 e2 x0 x1 x2 hat hb4; obtain ⟨⟨d0, d1⟩, ⟨e0, e1, e2⟩, ⟨x0, x1, x2⟩, -⟩ := PV.out w4 B4.out))
  have b4 := (PV.out w4 B4.out).2.2.2
  have D4 := Lib.hid b4
  have ST := Lib.hid (RS.out w4 b4 a1 1 c1)
  clear b4
  go_wp2_with fail
  refine ST.out.mono ?_
  rintro e w5 ⟨rfl, b5, c5, h5, o5, l5⟩
  have P5 := Lib.hid (And.intro h5 (And.intro o5 l5))
  clear h5 o5 l5 d0 d1 e0 e1 e2 x0 x1 x2
  go_wp2
  go_ret
  obtain ⟨h5, o5, l5⟩ := P5.out
  have hbx := BX.out w4 D4.out
  obtain ⟨g, c, e, hr⟩ := A4.out
  exact ⟨a1, c1, b5, c5, rfl, ⟨h5, nds_only (ND.out w4 D4.out) hbx l5, own_base o5 (Nat.zero_le _)⟩, row3_only ⟨g, c, e, own_base hr (Nat.zero_le _)⟩ hbx l5, (Only.below D4.out).trans l5⟩
end Go.Proofs.YtkenipanpimolaaGreatDoor

/- The document's Fork of layer 16, of the first space to the second. Condition: its world lies in a box. -/
namespace Go.Proofs.YtkenipanpimolaaGreatDoor
open Go.RowKit Go.Maps
set_option maxRecDepth 100000

theorem below_allocZ {w w' : World} (h : Below w.heap.size w w') (o : Obj) : Below w.heap.size w (w'.alloc o) := h.alloc h.size o
theorem below_drewZ {w w' : World} (h : Below w.heap.size w w') : Below w.heap.size w w'.drew := h.drew
set_option maxHeartbeats 4000000 in
theorem rforkZ {w : World} {wb : Nat} {nv : Value} {L : List Nd} {x : Nd} {b c : Nat} {a1 : Option Addr} {c1 : Nat} (h : DocW w wb nv L 1 (.slice a1 1 c1) b c) (har : Row3 0 w (.slice a1 1 c1)) (hg : GoodU L) (hx : atN 2 L = some x) (he : chargeEU L 2 1 = 0) :
    Calls Tryz.prog 23 #[.pointer (some ⟨wb, 0, none⟩), .int .i64 1, .int .i64 2] w fun e w' => e = .returned (.int .i64 0) ∧ Only w w' (fun k => k = wb) ∧ ∃ a1 n1 c1 a2 c2, w'.heap[wb]? = some (boxWd (.slice a1 n1 c1) (.slice a2 2 c2)) := by
  obtain ⟨hb, ho, hs⟩ := h
  obtain ⟨ab, ao, rfl, hab, r0, r1, r2⟩ : ∃ ab ao, a1 = some ⟨ab, ao, none⟩ ∧ ab < w.heap.size ∧ w.cell? ⟨ab, ao, none⟩ = some (.int .i64 0) ∧ w.cell? ⟨ab, ao + 1, none⟩ = some (.int .i64 3) ∧ w.cell? ⟨ab, ao + 2, none⟩ = some (.bool true) := by
    obtain ⟨g, c', e, hr⟩ := har
    injection e with e1
    obtain ⟨h0, -⟩ | ⟨g', c2, he2, _, _, hlt, hcc⟩ := row_all hr
    · cases h0
    injection he2 with he2
    injection he2 with he2
    injection he2 with he2
    subst he2
    have k := fun j u hu => hcc w (Below.refl _ _) j u hu
    simp only [Addr.add_mid, Nat.zero_add] at k
    exact ⟨g, 0, e1, hlt, k 0 _ rfl, k 1 _ rfl, k 2 _ rfl⟩
  have AR := Lib.hid (And.intro hab (And.intro r0 (And.intro r1 r2)))
  clear har hab r0 r1 r2
  obtain ⟨h0, -⟩ | ⟨b', c', he', hc1, hc2, hbl, hcs⟩ := row_all hs
  · cases h0
  obtain ⟨rfl, rfl⟩ : b = b' ∧ c = c' := by
    simp only [Value.slice.injEq, Option.some.injEq, Addr.mk.injEq, and_true, true_and] at he'
    exact he'
  have PV : Hid (∀ V, Below w.heap.size w V → (V.cell? ⟨wb, 0, none⟩ = some nv ∧ V.cell? ⟨wb, 1, none⟩ = some (.slice (some ⟨b, 0, none⟩) 1 c)) ∧ (V.cell? ⟨b, 0, none⟩ = some (.int .i64 1) ∧ V.cell? ⟨b, 1, none⟩ = some (.slice (some ⟨ab, ao, none⟩) 1 c1) ∧ V.cell? ⟨b, 2, none⟩ = some (.slice none 0 0))) := Lib.hid fun V hV => by
    have k := fun j u hu => hcs V hV j u hu
    simp only [Addr.add_mid, Nat.zero_add] at k
    exact ⟨⟨by rw [cell_of_row _ _ _ _ _ _ (below_block hV hb)]; rfl, by rw [cell_of_row _ _ _ _ _ _ (below_block hV hb)]; rfl⟩, k 0 _ rfl, k 1 _ rfl, k 2 _ rfl⟩
  have F1 := Lib.hid (rfitsZ (Or.inl rfl) w)
  have F2 := Lib.hid (rfitsZ (Or.inr rfl) w)
  obtain ⟨⟨d0, d1⟩, e0, e1, e2⟩ := PV.out w (Below.refl _ _)
  have A1 := Lib.hid (rAt1 nv b c 1 1 w e0)
  rw [if_pos rfl] at A1
  obtain ⟨k, hk⟩ : ∃ k, k = posN 2 L := ⟨_, rfl⟩
  have AT := Lib.hid (fun V (hV : Below w.heap.size w V) => rat11 L nv 2 V (Nat.le_trans hg.len (by decide)) (NdsAt.of_row (own_step ho hV)) (atI_some hx))
  rw [← hk] at AT
  have dk : decide ((k : Int) < 0) = false := decide_eq_false (by omega)
  have A2 := Lib.hid (fun V (hV : V.cell? ⟨b, 0, none⟩ = some (.int .i64 1)) => rAt1 nv b c 1 2 V hV)
  rw [show (if (1 : Int) = 2 then (0 : Int) else -1) = -1 from by decide] at A2
  have CH := Lib.hid (fun V (hV : Below w.heap.size w V) => rchargeZ (i := 2) hg (below_block hV hb) (own_step ho hV) he)
  have HS := Lib.hid (And.intro hb hs)
  clear hb ho hs hk hx he hg he' hbl hcs
  go_enter Tryz.func23, Tryz.ntmps23
  go_wp2_with fail
  refine F1.out.mono ?_
  rintro e w1 ⟨rfl, rfl⟩
  go_wp2_with fail
  refine F2.out.mono ?_
  rintro e w1 ⟨rfl, rfl⟩
  go_wp2_with fail
  refine A1.out.mono ?_
  rintro e w1 ⟨rfl, hb1⟩
  have B1 := Lib.hid hb1
  clear d0 d1 e0 e1 e2 hb1
  obtain ⟨⟨d0, d1⟩, e0, e1, e2⟩ := PV.out w1 B1.out
  go_wp2_with fail
  refine (AT.out w1 B1.out).mono ?_
  rintro e w2 ⟨rfl, rfl⟩
  go_wp2_with fail
  refine (A2.out w1 e0).mono ?_
  rintro e w2 ⟨rfl, hb2⟩
  have B2 := Lib.hid (B1.out.trans (hb2.mono B1.out.size))
  clear d0 d1 e0 e1 e2 hb2
  obtain ⟨⟨d0, d1⟩, e0, e1, e2⟩ := PV.out w2 B2.out
  obtain ⟨w3, hw3⟩ : ∃ w3, w3 = w2.alloc (.cells #[.int .i64 1, .slice (some ⟨ab, ao, none⟩) 1 c1, .slice none 0 0] 111) := ⟨_, rfl⟩
  have B3 : Hid (Below w.heap.size w w3) := Lib.hid (by rw [hw3]; exact B2.out.alloc B2.out.size _)
  have X3 : Hid (w3.heap[w2.heap.size]? = some (.cells #[.int .i64 1, .slice (some ⟨ab, ao, none⟩) 1 c1, .slice none 0 0] 111 (0, 0))) := Lib.hid (by rw [hw3]; exact heap_alloc_new _ _)
  have y2 : (w2.alloc (.cells #[.int .i64 1, .slice (some ⟨ab, ao, none⟩) 1 c1, .slice none 0 0] 111)).cell? ⟨w2.heap.size, 2, none⟩ = some (.slice none 0 0) := (cells3 (by rw [← hw3]; exact X3.out)).2.2
  have CD := Lib.hid (rCharged0 none 0 w3)
  go_wp2_with fail
  rw [← hw3]
  refine CD.out.mono ?_
  rintro e w4 ⟨rfl, rfl⟩
  clear hw3 y2
  go_wp2_with fail
  refine (CH.out w3 B3.out).mono ?_
  rintro e w4 ⟨nv', rfl, h4, o4, l4, n4⟩
  obtain ⟨a9, c9, rfl⟩ := (NdsAt.of_row o4).form
  have SB : Hid (∀ V, Below w4.heap.size w4 V → V.cell? ⟨w2.heap.size, 1, none⟩ = some (.slice (some ⟨ab, ao, none⟩) 1 c1) ∧ V.cell? ⟨w2.heap.size, 2, none⟩ = some (.slice none 0 0) ∧ V.cell? ⟨ab, ao, none⟩ = some (.int .i64 0) ∧ V.cell? ⟨ab, ao + 1, none⟩ = some (.int .i64 3) ∧ V.cell? ⟨ab, ao + 2, none⟩ = some (.bool true)) := Lib.hid fun V hV => by
    have hwl := lt_of_block HS.out.1
    have hz := B2.out.size
    obtain ⟨x0, x1, x2⟩ := cells3 (below_block hV (l4.kept X3.out (by omega)))
    obtain ⟨hab, r0, r1, r2⟩ := AR.out
    have ne : ab ≠ wb := fun e => by
      have q := HS.out.1
      rw [← e] at q
      rw [cell_of_row _ _ _ _ _ _ q] at r2
      rw [Array.getElem?_eq_none (by simp)] at r2
      cases r2
    have hb2 := B2.out
    have hb3 := B3.out
    have far : ∀ j, V.cell? ⟨ab, j, none⟩ = w.cell? ⟨ab, j, none⟩ := fun j => by
      have h3 : w3.cell? ⟨ab, j, none⟩ = w.cell? ⟨ab, j, none⟩ := hb3.cell (p := ⟨ab, j, none⟩) hab
      have z3 : ab < w3.heap.size := Nat.lt_of_lt_of_le hab hb3.size
      have h4 : w4.cell? ⟨ab, j, none⟩ = w3.cell? ⟨ab, j, none⟩ := World.cell?_of_block (w := w3) (a := ⟨ab, j, none⟩) (l4.block ab z3 ne)
      have h5 : V.cell? ⟨ab, j, none⟩ = w4.cell? ⟨ab, j, none⟩ := hV.cell (p := ⟨ab, j, none⟩) (Nat.lt_of_lt_of_le z3 l4.size)
      exact h5.trans (h4.trans h3)
    exact ⟨x1, x2, (far _).trans r0, (far _).trans r1, (far _).trans r2⟩
  have PT : Hid (∀ V (aa ap : Option Addr) (an ac pn pc : Nat), Below w4.heap.size w4 V → Calls Tryz.prog 44 #[.pointer (some ⟨wb, 0, none⟩), .agg #[.int .i64 2, .slice aa an ac, .slice ap pn pc]] V fun e V' => e = .returned (.tuple #[]) ∧ Only w4 V' (fun k => k = wb) ∧ (∃ a n c a2 c2, V'.heap[wb]? = some (boxWd (.slice a n c) (.slice a2 2 c2))) ∧ V'.cell? ⟨w2.heap.size, 1, none⟩ = some (.slice (some ⟨ab, ao, none⟩) 1 c1) ∧ V'.cell? ⟨w2.heap.size, 2, none⟩ = some (.slice none 0 0) ∧ V'.cell? ⟨ab, ao, none⟩ = some (.int .i64 0) ∧ V'.cell? ⟨ab, ao + 1, none⟩ = some (.int .i64 3) ∧ V'.cell? ⟨ab, ao + 2, none⟩ = some (.bool true)) := Lib.hid fun V aa ap an ac pn pc hV => by
    have hrow : V.ownsRow 0 111 3 (.slice (some ⟨b, 0, none⟩) 1 c) 1 [.int .i64 1, .slice (some ⟨ab, ao, none⟩) 1 c1, .slice none 0 0] := own_step (ownsRow_only (own_step HS.out.2 B3.out) l4 fun g hg e => by
      subst e
      obtain ⟨cs, hcs⟩ := own_block HS.out.2 hg
      rw [HS.out.1] at hcs
      simp only [boxWd, Option.some.injEq, Obj.cells.injEq] at hcs
      exact absurd hcs.2.1 (by decide)) hV
    refine (rput1 (p := 1) (i := 2) (by decide) _ _ _ _ _ _ aa ap an ac pn pc (below_block hV h4) hrow).mono ?_
    rintro e V' ⟨rfl, ho, q1, q2, hq⟩
    obtain ⟨t1, t2, t3, t4, t5⟩ := SB.out V hV
    have hwl := lt_of_block HS.out.1
    have hz := B2.out.size
    have hz3 := B3.out.size
    have ne : ab ≠ wb := fun e => by
      have q := HS.out.1
      obtain ⟨_, _, _, r2⟩ := AR.out
      rw [← e] at q
      rw [cell_of_row _ _ _ _ _ _ q] at r2
      rw [Array.getElem?_eq_none (by simp)] at r2
      cases r2
    have far : ∀ g j v, g ≠ wb → V.cell? ⟨g, j, none⟩ = some v → V'.cell? ⟨g, j, none⟩ = some v := fun g j v hg hv => (World.cell?_of_block (w := V) (a := ⟨g, j, none⟩) (ho.block g (block_lt_of_cell (a := ⟨g, j, none⟩) hv) hg)).trans hv
    exact ⟨rfl, (Only.below hV).trans ho, ⟨_, _, _, q1, q2, hq⟩, far _ _ _ (by omega) t1, far _ _ _ (by omega) t2, far _ _ _ ne t3, far _ _ _ ne t4, far _ _ _ ne t5⟩
  have L4 := Lib.hid l4
  clear h4 o4 l4 n4 d0 d1 e0 e1 e2
  go_wp2
  obtain ⟨s1, s2, s3, s4, s5⟩ := SB.out w4 (Below.refl _ _)
  go_region_held3 (fun V => V.cell? ⟨w2.heap.size, 1, none⟩ = some (.slice (some ⟨ab, ao, none⟩) 1 c1) ∧ V.cell? ⟨w2.heap.size, 2, none⟩ = some (.slice none 0 0) ∧ V.cell? ⟨ab, ao, none⟩ = some (.int .i64 0) ∧ V.cell? ⟨ab, ao + 1, none⟩ = some (.int .i64 3) ∧ V.cell? ⟨ab, ao + 2, none⟩ = some (.bool true)) (first | exact ⟨s1, s2, s3, s4, s5⟩ | (with_reducible refine SB.out _ ?_; (repeat (first | with_reducible exact Below.refl _ _ | with_reducible refine below_drewZ ?_ | with_reducible refine below_allocZ ?_ _))))
    (first
      | (go_at_call 44; with_reducible refine (PT.out _ _ _ _ _ _ _ (by repeat (first | with_reducible exact Below.refl _ _ | with_reducible refine below_drewZ ?_ | with_reducible refine below_allocZ ?_ _))).mono ?_; rintro e w6 ⟨rfl, h6, hbx, t1, t2, t3, t4, t5⟩; have L6 := Lib.hid (And.intro h6 hbx); clear s1 s2 s3 s4 s5 h6 hbx; have s1 := t1; have s2 := t2; have s3 := t3; have s4 := t4; have s5 := t5; clear t1 t2 t3 t4 t5))
  all_goals
    clear s1 s2 s3 s4 s5
    go_wp2
    go_ret
    exact ⟨rfl, (Only.below B3.out).trans (L4.out.trans L6.out.1), L6.out.2⟩
end Go.Proofs.YtkenipanpimolaaGreatDoor
