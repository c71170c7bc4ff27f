/- Texts of mine, joined: N48 N49 N50. What each says and under which conditions stands at its head, below. -/
import Derived.Test.YtkcecfghfohjcaaDoorGS
/- The law's state: the program's manager, the document's spaces, the row of roots; what calls leave of it; the contract of root. No condition. -/
namespace Go.Proofs.YtkcecfghfohjcaaDoor
open Go.RowKit Go.Maps
set_option maxRecDepth 100000

/-- The document's side: spaces as functions, how many frames are left, how many spaces. -/
def RefS (base : Nat) (w : World) (wb n m : Nat) (W : Nat → Option Sp) (c q : Nat) : Prop := ∃ a cc K, RefW base w wb n m a cc K ∧ Match W K ∧ c + usedK K = m ∧ K.length = q
theorem RDone.to {base : Nat} {w w' : World} {wb n m c c' : Nat} {a : Option Addr} {K : List Rec} {W' : Nat → Option Sp} (h : RDone base w w' wb n m a c K W' c') : RefS base w' wb n m W' c' K.length := by
  obtain ⟨K', h1, h2, h3, h4⟩ := h.ex
  exact ⟨a, c, K', h1, h2, h3, h4⟩
/-- The row of roots, and the variable that holds it. -/
def RowS (base : Nat) (w : World) (lb : Nat) (D : List Nat) : Prop := ∃ a cc, w.heap[lb]? = some (.cells #[.slice a D.length cc] 32 (0, 0)) ∧ w.ownsRow base 3 1 (.slice a D.length cc) D.length (natsV D)
structure PlSt (W0 w : World) (tb sb : Nat) (X : PIx) (m base wb lb : Nat) (Wf : Nat → Option Sp) (c : Nat) (Wr : Nat → Option Sp) (cr q : Nat) (D : List Nat) : Prop where
  sys : Sys W0 w tb sb X (m + 2) m c Wf
  ref : RefS base w wb (m + 2) m Wr cr q
  row : RowS base w lb D
  b0 : W0.heap.size ≤ base
  b1 : base ≤ w.heap.size
  lbn : W0.heap.size ≤ lb
  low : ∀ x ∈ D, x < m
section
variable {W0 w w' : World} {tb sb m base wb lb c c' cr cr' q : Nat} {X : PIx} {Wf Wf' Wr Wr' : Nat → Option Sp} {D : List Nat}
theorem RowS.only {B : Nat → Prop} (h : RowS base w lb D) (ho : Only w w' B) (hB : ∀ k cs t, w.heap[k]? = some (.cells cs t (0, 0)) → t = 32 ∨ t = 3 → ¬ B k) : RowS base w' lb D := by
  obtain ⟨a, cc, h1, h2⟩ := h
  exact ⟨a, cc, ho.kept h1 (hB _ _ _ h1 (Or.inl rfl)), ownsRow_only h2 ho fun g hg => by obtain ⟨cs, hcs⟩ := own_block h2 hg; exact hB _ _ _ hcs (Or.inr rfl)⟩
theorem RefS.only {n : Nat} {B : Nat → Prop} (h : RefS base w wb n m Wr cr q) (ho : Only w w' B) (hB : ∀ k cs t, w.heap[k]? = some (.cells cs t (0, 0)) → t = 31 ∨ t = 50 ∨ t = 75 → ¬ B k) : RefS base w' wb n m Wr cr q := by
  obtain ⟨a, cc, K, h1, h2, h3, h4⟩ := h
  exact ⟨a, cc, K, h1.only ho hB, h2, h3, h4⟩
theorem RefS.step {n : Nat} (h : RefS base w wb n m Wr cr q) (hb : Below w.heap.size w w') : RefS base w' wb n m Wr cr q := by
  obtain ⟨a, cc, K, h1, h2⟩ := h
  exact ⟨a, cc, K, h1.step hb, h2⟩
theorem RowS.step (h : RowS base w lb D) (hb : Below w.heap.size w w') : RowS base w' lb D := by
  obtain ⟨a, cc, h1, h2⟩ := h
  exact ⟨a, cc, below_block hb h1, own_step h2 hb⟩
theorem PlSt.step (h : PlSt W0 w tb sb X m base wb lb Wf c Wr cr q D) (hb : Below w.heap.size w w') : PlSt W0 w' tb sb X m base wb lb Wf c Wr cr q D :=
  ⟨h.sys.step hb, h.ref.step hb, h.row.step hb, h.b0, Nat.le_trans h.b1 hb.size, h.lbn, h.low⟩
/-- A call on the manager. -/
theorem PlSt.gone (h : PlSt W0 w tb sb X m base wb lb Wf c Wr cr q D) (hg : Gone W0 w w' tb sb X (m + 2) m c' Wf') : PlSt W0 w' tb sb X m base wb lb Wf' c' Wr cr q D :=
  ⟨hg.st, h.ref.only hg.only (fun k cs t hk ht => h.sys.other hk (by rcases ht with rfl | rfl | rfl <;> exact ⟨by decide, by decide, by decide, by decide, by decide⟩)),
    h.row.only hg.only (fun k cs t hk ht => h.sys.other hk (by rcases ht with rfl | rfl <;> exact ⟨by decide, by decide, by decide, by decide, by decide⟩)), h.b0, Nat.le_trans h.b1 hg.only.size, h.lbn, h.low⟩
/-- A call on the document's spaces. -/
theorem PlSt.done {a : Option Addr} {cc : Nat} {K : List Rec} (h : PlSt W0 w tb sb X m base wb lb Wf c Wr cr q D) (hR : RefW base w wb (m + 2) m a cc K) (hd : RDone base w w' wb (m + 2) m a cc K Wr' cr') : PlSt W0 w' tb sb X m base wb lb Wf c Wr' cr' K.length D := by
  have hk : ∀ y, (Value.slice a K.length cc).ownBlock = some y → ∃ cs, w.heap[y]? = some (.cells cs 50 (0, 0)) := fun y hy => own_block hR.row hy
  refine ⟨h.sys.apart hd.only fun y hy => ?_, hd.to, h.row.only hd.only fun k cs t hkk ht e => ?_, h.b0, Nat.le_trans h.b1 hd.only.size, h.lbn, h.low⟩
  · obtain ⟨cs, hcs⟩ := hk y hy
    exact ⟨Nat.le_trans h.b0 (own_ge hR.row hy), cs, _, hcs, by decide, by decide, by decide, by decide, by decide, by decide⟩
  · obtain ⟨cs', hcs⟩ := hk k e
    rw [hkk] at hcs
    cases hcs
    rcases ht with h | h <;> exact absurd h (by decide)
end
def opO (d s pg : Int) (p x k : Bool) (g : Int) : Obj := .cells #[.int .i64 d, .int .i64 s, .int .i64 pg, .bool p, .bool x, .bool k, .int .i64 g] 39 (0, 0)
/-- The state, and a call's box. -/
structure OpSt (W0 w : World) (tb sb : Nat) (X : PIx) (m base wb lb : Nat) (Wf : Nat → Option Sp) (c : Nat) (Wr : Nat → Option Sp) (cr q : Nat) (D : List Nat) (bx : Nat) (d s pg : Int) (p x k : Bool) (g : Int) : Prop where
  st : PlSt W0 w tb sb X m base wb lb Wf c Wr cr q D
  box : w.heap[bx]? = some (opO d s pg p x k g)
section
variable {W0 w w' : World} {tb sb m base wb lb c c' cr cr' q bx : Nat} {X : PIx} {Wf Wf' Wr Wr' : Nat → Option Sp} {D : List Nat} {d s pg : Int} {p x k : Bool} {g : Int}
theorem OpSt.step (h : OpSt W0 w tb sb X m base wb lb Wf c Wr cr q D bx d s pg p x k g) (hb : Below w.heap.size w w') : OpSt W0 w' tb sb X m base wb lb Wf c Wr cr q D bx d s pg p x k g := ⟨h.st.step hb, below_block hb h.box⟩
theorem OpSt.gone (h : OpSt W0 w tb sb X m base wb lb Wf c Wr cr q D bx d s pg p x k g) (hg : Gone W0 w w' tb sb X (m + 2) m c' Wf') : OpSt W0 w' tb sb X m base wb lb Wf' c' Wr cr q D bx d s pg p x k g :=
  ⟨h.st.gone hg, hg.only.kept h.box (h.st.sys.other h.box ⟨by decide, by decide, by decide, by decide, by decide⟩)⟩
theorem OpSt.done {a : Option Addr} {cc : Nat} {K : List Rec} (h : OpSt W0 w tb sb X m base wb lb Wf c Wr cr q D bx d s pg p x k g) (hR : RefW base w wb (m + 2) m a cc K) (hd : RDone base w w' wb (m + 2) m a cc K Wr' cr') : OpSt W0 w' tb sb X m base wb lb Wf c Wr' cr' K.length D bx d s pg p x k g :=
  ⟨h.st.done hR hd, hd.only.kept h.box fun e => by
    obtain ⟨cs, hcs⟩ := own_block hR.row e
    have := h.box
    rw [hcs] at this; cases this⟩
theorem OpSt.cells (h : OpSt W0 w tb sb X m base wb lb Wf c Wr cr q D bx d s pg p x k g) : w.cell? ⟨bx, 0, none⟩ = some (.int .i64 d) ∧ w.cell? ⟨bx, 1, none⟩ = some (.int .i64 s) ∧ w.cell? ⟨bx, 2, none⟩ = some (.int .i64 pg) ∧ w.cell? ⟨bx, 3, none⟩ = some (.bool p) ∧ w.cell? ⟨bx, 4, none⟩ = some (.bool x) ∧ w.cell? ⟨bx, 5, none⟩ = some (.bool k) ∧ w.cell? ⟨bx, 6, none⟩ = some (.int .i64 g) := by
  have hb := h.box
  unfold opO at hb
  refine ⟨?_, ?_, ?_, ?_, ?_, ?_, ?_⟩ <;> (rw [cell_of_row _ _ _ _ _ _ hb]; rfl)
end
/-- The root of the space that was opened as the s-th. -/
def rootD (D : List Nat) (s : Int) : Int := if 0 ≤ s ∧ s < (D.length : Int) then ((D.getD s.toNat 0 : Nat) : Int) else -1
theorem rootD_I64 {D : List Nat} {m : Nat} (h : ∀ x ∈ D, x < m) (hm : m ≤ 1000) (s : Int) : I64 (rootD D s) := by
  unfold rootD
  split
  · rename_i hs
    have := h _ (getD_in D 0 s.toNat (by omega))
    exact ⟨by omega, by omega⟩
  · exact ⟨by decide, by decide⟩
theorem natsV_get : ∀ (D : List Nat) (i : Nat), i < D.length → (natsV D)[i]? = some (.int .i64 ((D.getD i 0 : Nat) : Int)) := fun D i hi => by
  simp [natsV, List.getD_eq_getElem?_getD, List.getElem?_eq_getElem hi]
set_option maxHeartbeats 400000 in
theorem root_ok (D : List Nat) (a : Option Addr) (n cc base : Nat) (s : Int) (w : World) (hn : n = D.length) (h : w.ownsRow base 3 1 (.slice a n cc) n (natsV D)) : Calls Tryd.prog 14 #[.slice a n cc, .int .i64 s] w fun e w' => e = .returned (.int .i64 (rootD D s)) ∧ w = w' := by
  by_cases h0 : s < 0
  · have d0 : decide (s < 0) = true := decide_eq_true h0
    have e : rootD D s = -1 := by unfold rootD; rw [if_neg (by omega)]
    rw [e]
    clear e h
    go_enter Tryd.func14, Tryd.ntmps14
    go_wp2
    go_ret
    exact ⟨rfl, rfl⟩
  have d0 : decide (s < 0) = false := decide_eq_false h0
  obtain ⟨i, rfl⟩ := Int.eq_ofNat_of_zero_le (show 0 ≤ s by omega)
  by_cases h1 : n ≤ i
  · have d1 : decide ((n : Int) ≤ (i : Int)) = true := decide_eq_true (by omega)
    have d1' : decide (n ≤ i) = true := decide_eq_true h1
    have e : rootD D (i : Int) = -1 := by unfold rootD; rw [if_neg (by omega)]
    rw [e]
    clear e h
    go_enter Tryd.func14, Tryd.ntmps14
    go_wp2
    go_ret
    exact ⟨rfl, rfl⟩
  · have d1 : decide ((n : Int) ≤ (i : Int)) = false := decide_eq_false (by omega)
    have d1' : decide (n ≤ i) = false := decide_eq_false h1
    have hlt : i < n := by omega
    obtain ⟨r, hr⟩ : ∃ r : Nat, r = D.getD i 0 := ⟨_, rfl⟩
    have e : rootD D (i : Int) = (r : Int) := by unfold rootD; rw [if_pos (by omega), Int.toNat_natCast, hr]
    rw [e]
    have hrow := h
    rcases h.2 with ⟨_, h00⟩ | ⟨b, cap, cur, hv, -, -, -⟩
    · omega
    · injection hv with e1 e2 e3
      subst e1
      have q0 := hrow.cells (g := b) rfl i _ (natsV_get D i (by omega))
      rw [Addr.add_mid, Nat.zero_add, ← hr] at q0
      clear e h hrow hr e2 e3 hn h1 d0 h0
      go_enter Tryd.func14, Tryd.ntmps14
      go_wp2
      go_ret
      exact ⟨rfl, rfl⟩
end Go.Proofs.YtkcecfghfohjcaaDoor

/- The contract of the law's play: Map, Unmap, Set, and a call that does nothing. No condition. Written by tpl/gen_n49.py. -/
namespace Go.Proofs.YtkcecfghfohjcaaDoor
open Go.RowKit Go.Maps
set_option maxRecDepth 100000
attribute [local irreducible] allF tabF plF mapB hasB segN

/-- What play leaves. -/
def PlPost (W0 : World) (tb sb : Nat) (X : PIx) (m base wb lb q : Nat) (D : List Nat) (e : Ending) (w' : World) : Prop :=
  e = .returned (.bool true) ∧ ∃ Wf c q' D', PlSt W0 w' tb sb X m base wb lb Wf c Wf c q' D' ∧ q' ≤ q + 1 ∧ D'.length ≤ D.length + 1
abbrev opV (d s pg : Int) (p x k : Bool) (g : Int) : Value := .agg #[.int .i64 d, .int .i64 s, .int .i64 pg, .bool p, .bool x, .bool k, .int .i64 g]
theorem OpSt.start {W0 w : World} {tb sb m base wb lb c cr q : Nat} {X : PIx} {Wf Wr : Nat → Option Sp} {D : List Nat} (h : PlSt W0 w tb sb X m base wb lb Wf c Wr cr q D) (d s pg : Int) (p x k : Bool) (g : Int) :
    OpSt W0 (w.alloc (.cells #[.int .i64 d, .int .i64 s, .int .i64 pg, .bool p, .bool x, .bool k, .int .i64 g] 39)) tb sb X m base wb lb Wf c Wr cr q D w.heap.size d s pg p x k g :=
  ⟨h.step ((Below.refl _ _).alloc (Nat.le_refl _) _), heap_alloc_new w _⟩
section
variable {W0 w : World} {tb sb m base wb lb c q : Nat} {X : PIx} {Wf : Nat → Option Sp} {D : List Nat}
set_option maxHeartbeats 2000000 in
theorem play_map (h : PlSt W0 w tb sb X m base wb lb Wf c Wf c q D) (hq : q ≤ 99) (hm : m ≤ 1000) (s pg : Int) (p x k : Bool) (g : Int) (hpg : I64 pg) :
    Calls Tryd.prog 11 #[.pointer (some ⟨tb, 0, none⟩), .pointer (some ⟨wb, 0, none⟩), .pointer (some ⟨lb, 0, none⟩), opV 3 s pg p x k g] w (PlPost W0 tb sb X m base wb lb q D) := by
  obtain ⟨w0, hw0⟩ : ∃ w0, w0 = w.alloc (.cells #[.int .i64 3, .int .i64 s, .int .i64 pg, .bool p, .bool x, .bool k, .int .i64 g] 39) := ⟨_, rfl⟩
  have S0 : Hid (OpSt W0 w0 tb sb X m base wb lb Wf c Wf c q D w.heap.size 3 s pg p x k g) := Lib.hid (by rw [hw0]; exact OpSt.start h 3 s pg p x k g)
  have HPG := Lib.hid hpg
  have HI : Hid (∀ s, I64 (rootD D s)) := Lib.hid fun s => rootD_I64 h.low hm s
  obtain ⟨al, cl, hl1, hl2⟩ := S0.out.st.row
  obtain ⟨n, hn⟩ : ∃ n, n = D.length := ⟨_, rfl⟩
  rw [← hn] at hl1 hl2
  have HN := Lib.hid hn
  have HL2 := Lib.hid hl2
  have y0 : w0.cell? ⟨lb, 0, none⟩ = some (.slice al n cl) := by rw [cell_of_row _ _ _ _ _ _ hl1]; rfl
  have y1 := S0.out.cells.2.1
  have YK : Hid (∀ V, Below w0.heap.size w0 V → V.cell? ⟨lb, 0, none⟩ = some (.slice al n cl) ∧ V.cell? ⟨w.heap.size, 1, none⟩ = some (.int .i64 s)) := Lib.hid fun V hV => by
    refine ⟨?_, (S0.out.step hV).cells.2.1⟩
    rw [cell_of_row _ _ _ _ _ _ (below_block hV hl1)]; rfl
  obtain ⟨r, hr⟩ : ∃ r, rootD D s = r := ⟨_, rfl⟩
  have HR := Lib.hid hr
  have IR : Hid (I64 r) := Lib.hid (by rw [← hr]; exact HI.out s)
  clear h hpg hn hl1 hl2 hr
  go_enter Tryd.func11, Tryd.ntmps11
  go_wp2_with fail
  rw [← hw0]
  clear hw0
  go_region_held3 (fun V => V.cell? ⟨lb, 0, none⟩ = some (.slice al n cl) ∧ V.cell? ⟨w.heap.size, 1, none⟩ = some (.int .i64 s)) (first | exact YK.out _ (Below.refl _ _).drew | go_keep)
    (first
      | (go_at_call 14; refine (root_ok D al n cl base s _ HN.out (own_step HL2.out (Below.refl _ _).drew)).mono ?_; rw [HR.out]; rintro e w1 ⟨rfl, rfl⟩))
  have S1 := Lib.hid (S0.out.step (Below.refl _ _).drew)
  obtain ⟨w1, hw1⟩ : ∃ w1, w1 = w0.drew := ⟨_, rfl⟩
  rw [← hw1] at S1 ⊢
  clear y0 y1 hw1 YK HL2 S0
  obtain ⟨a, cc, K, hR1, hM1, hU1, hq1⟩ := S1.out.st.ref
  have HM1 := Lib.hid hM1
  have HU1 := Lib.hid hU1
  have HQ1 := Lib.hid hq1
  clear hR1 hM1 hU1 hq1
  obtain ⟨o0, o1, o2, o3, o4, o5, o6⟩ := S1.out.cells
  go_wp2_with fail
  obtain ⟨er, her⟩ : ∃ er, mapErr (m + 2) Wf c r pg (p, x, k, g) = er := ⟨_, rfl⟩
  have HER := Lib.hid her
  have S2 := Lib.hid (S1.out.step (Below.refl _ _).drew)
  clear her
  go_region_held3 (fun V => V.cell? ⟨w.heap.size, 2, none⟩ = some (.int .i64 pg) ∧ V.cell? ⟨w.heap.size, 3, none⟩ = some (.bool p) ∧ V.cell? ⟨w.heap.size, 4, none⟩ = some (.bool x) ∧ V.cell? ⟨w.heap.size, 5, none⟩ = some (.bool k) ∧ V.cell? ⟨w.heap.size, 6, none⟩ = some (.int .i64 g)) (first | exact S2.out.cells.2.2 | go_keep | exact S6.out.cells.2.2 | exact S5.out.cells.2.2)
    (first
      | (go_at_call 24; refine (S2.out.st.sys.map r pg p x k g IR.out HPG.out).mono ?_; rw [HER.out]; rintro e w5 ⟨rfl, hg⟩; have S5 := Lib.hid (S2.out.gone hg); clear hg)
      | (go_at_call 32; obtain ⟨a5, cc5, K5, hR5, hM5, hU5, hq5⟩ := S5.out.st.ref; refine (rmap_ok hR5 S5.out.st.b1 hM5 (by omega) hU5 r pg p x k g).mono ?_; rw [HER.out]; rintro e w6 ⟨rfl, hd⟩; have S6 := Lib.hid (S5.out.done hR5 hd); have Q6 : Hid (K5.length ≤ q + 1) := Lib.hid (by omega); clear hd hR5 hM5 hU5 hq5))
  clear o0 o1 o2 o3 o4 o5 o6
  go_wp2
  go_ret
  exact ⟨rfl, _, _, _, _, S6.out.st, Q6.out, Nat.le_succ _⟩
set_option maxHeartbeats 2000000 in
theorem play_set (h : PlSt W0 w tb sb X m base wb lb Wf c Wf c q D) (hq : q ≤ 99) (hm : m ≤ 1000) (s pg : Int) (p x k : Bool) (g : Int) (hpg : I64 pg) :
    Calls Tryd.prog 11 #[.pointer (some ⟨tb, 0, none⟩), .pointer (some ⟨wb, 0, none⟩), .pointer (some ⟨lb, 0, none⟩), opV 5 s pg p x k g] w (PlPost W0 tb sb X m base wb lb q D) := by
  obtain ⟨w0, hw0⟩ : ∃ w0, w0 = w.alloc (.cells #[.int .i64 5, .int .i64 s, .int .i64 pg, .bool p, .bool x, .bool k, .int .i64 g] 39) := ⟨_, rfl⟩
  have S0 : Hid (OpSt W0 w0 tb sb X m base wb lb Wf c Wf c q D w.heap.size 5 s pg p x k g) := Lib.hid (by rw [hw0]; exact OpSt.start h 5 s pg p x k g)
  have HPG := Lib.hid hpg
  have HI : Hid (∀ s, I64 (rootD D s)) := Lib.hid fun s => rootD_I64 h.low hm s
  obtain ⟨al, cl, hl1, hl2⟩ := S0.out.st.row
  obtain ⟨n, hn⟩ : ∃ n, n = D.length := ⟨_, rfl⟩
  rw [← hn] at hl1 hl2
  have HN := Lib.hid hn
  have HL2 := Lib.hid hl2
  have y0 : w0.cell? ⟨lb, 0, none⟩ = some (.slice al n cl) := by rw [cell_of_row _ _ _ _ _ _ hl1]; rfl
  have y1 := S0.out.cells.2.1
  have YK : Hid (∀ V, Below w0.heap.size w0 V → V.cell? ⟨lb, 0, none⟩ = some (.slice al n cl) ∧ V.cell? ⟨w.heap.size, 1, none⟩ = some (.int .i64 s)) := Lib.hid fun V hV => by
    refine ⟨?_, (S0.out.step hV).cells.2.1⟩
    rw [cell_of_row _ _ _ _ _ _ (below_block hV hl1)]; rfl
  obtain ⟨r, hr⟩ : ∃ r, rootD D s = r := ⟨_, rfl⟩
  have HR := Lib.hid hr
  have IR : Hid (I64 r) := Lib.hid (by rw [← hr]; exact HI.out s)
  clear h hpg hn hl1 hl2 hr
  go_enter Tryd.func11, Tryd.ntmps11
  go_wp2_with fail
  rw [← hw0]
  clear hw0
  go_region_held3 (fun V => V.cell? ⟨lb, 0, none⟩ = some (.slice al n cl) ∧ V.cell? ⟨w.heap.size, 1, none⟩ = some (.int .i64 s)) (first | exact YK.out _ (Below.refl _ _).drew | go_keep)
    (first
      | (go_at_call 14; refine (root_ok D al n cl base s _ HN.out (own_step HL2.out (Below.refl _ _).drew)).mono ?_; rw [HR.out]; rintro e w1 ⟨rfl, rfl⟩))
  have S1 := Lib.hid (S0.out.step (Below.refl _ _).drew)
  obtain ⟨w1, hw1⟩ : ∃ w1, w1 = w0.drew := ⟨_, rfl⟩
  rw [← hw1] at S1 ⊢
  clear y0 y1 hw1 YK HL2 S0
  obtain ⟨a, cc, K, hR1, hM1, hU1, hq1⟩ := S1.out.st.ref
  have HM1 := Lib.hid hM1
  have HU1 := Lib.hid hU1
  have HQ1 := Lib.hid hq1
  clear hR1 hM1 hU1 hq1
  obtain ⟨o0, o1, o2, o3, o4, o5, o6⟩ := S1.out.cells
  go_wp2_with fail
  obtain ⟨er, her⟩ : ∃ er, setErr (m + 2) Wf r pg (p, x, k, g) = er := ⟨_, rfl⟩
  have HER := Lib.hid her
  have S2 := Lib.hid (S1.out.step (Below.refl _ _).drew)
  clear her
  go_region_held3 (fun V => V.cell? ⟨w.heap.size, 2, none⟩ = some (.int .i64 pg) ∧ V.cell? ⟨w.heap.size, 3, none⟩ = some (.bool p) ∧ V.cell? ⟨w.heap.size, 4, none⟩ = some (.bool x) ∧ V.cell? ⟨w.heap.size, 5, none⟩ = some (.bool k) ∧ V.cell? ⟨w.heap.size, 6, none⟩ = some (.int .i64 g)) (first | exact S2.out.cells.2.2 | go_keep | exact S6.out.cells.2.2 | exact S5.out.cells.2.2)
    (first
      | (go_at_call 25; refine (S2.out.st.sys.set r pg p x k g IR.out HPG.out).mono ?_; rw [HER.out]; rintro e w5 ⟨rfl, hg⟩; have S5 := Lib.hid (S2.out.gone hg); clear hg)
      | (go_at_call 34; obtain ⟨a5, cc5, K5, hR5, hM5, hU5, hq5⟩ := S5.out.st.ref; refine (rset_ok hR5 S5.out.st.b1 hM5 (by omega) hU5 r pg p x k g).mono ?_; rw [HER.out]; rintro e w6 ⟨rfl, hd⟩; have S6 := Lib.hid (S5.out.done hR5 hd); have Q6 : Hid (K5.length ≤ q + 1) := Lib.hid (by omega); clear hd hR5 hM5 hU5 hq5))
  clear o0 o1 o2 o3 o4 o5 o6
  go_wp2
  go_ret
  exact ⟨rfl, _, _, _, _, S6.out.st, Q6.out, Nat.le_succ _⟩
set_option maxHeartbeats 2000000 in
theorem play_unmap (h : PlSt W0 w tb sb X m base wb lb Wf c Wf c q D) (hq : q ≤ 99) (hm : m ≤ 1000) (s pg : Int) (p x k : Bool) (g : Int) (hpg : I64 pg) :
    Calls Tryd.prog 11 #[.pointer (some ⟨tb, 0, none⟩), .pointer (some ⟨wb, 0, none⟩), .pointer (some ⟨lb, 0, none⟩), opV 4 s pg p x k g] w (PlPost W0 tb sb X m base wb lb q D) := by
  obtain ⟨w0, hw0⟩ : ∃ w0, w0 = w.alloc (.cells #[.int .i64 4, .int .i64 s, .int .i64 pg, .bool p, .bool x, .bool k, .int .i64 g] 39) := ⟨_, rfl⟩
  have S0 : Hid (OpSt W0 w0 tb sb X m base wb lb Wf c Wf c q D w.heap.size 4 s pg p x k g) := Lib.hid (by rw [hw0]; exact OpSt.start h 4 s pg p x k g)
  have HPG := Lib.hid hpg
  have HI : Hid (∀ s, I64 (rootD D s)) := Lib.hid fun s => rootD_I64 h.low hm s
  obtain ⟨al, cl, hl1, hl2⟩ := S0.out.st.row
  obtain ⟨n, hn⟩ : ∃ n, n = D.length := ⟨_, rfl⟩
  rw [← hn] at hl1 hl2
  have HN := Lib.hid hn
  have HL2 := Lib.hid hl2
  have y0 : w0.cell? ⟨lb, 0, none⟩ = some (.slice al n cl) := by rw [cell_of_row _ _ _ _ _ _ hl1]; rfl
  have y1 := S0.out.cells.2.1
  have YK : Hid (∀ V, Below w0.heap.size w0 V → V.cell? ⟨lb, 0, none⟩ = some (.slice al n cl) ∧ V.cell? ⟨w.heap.size, 1, none⟩ = some (.int .i64 s)) := Lib.hid fun V hV => by
    refine ⟨?_, (S0.out.step hV).cells.2.1⟩
    rw [cell_of_row _ _ _ _ _ _ (below_block hV hl1)]; rfl
  obtain ⟨r, hr⟩ : ∃ r, rootD D s = r := ⟨_, rfl⟩
  have HR := Lib.hid hr
  have IR : Hid (I64 r) := Lib.hid (by rw [← hr]; exact HI.out s)
  clear h hpg hn hl1 hl2 hr
  go_enter Tryd.func11, Tryd.ntmps11
  go_wp2_with fail
  rw [← hw0]
  clear hw0
  go_region_held3 (fun V => V.cell? ⟨lb, 0, none⟩ = some (.slice al n cl) ∧ V.cell? ⟨w.heap.size, 1, none⟩ = some (.int .i64 s)) (first | exact YK.out _ (Below.refl _ _).drew | go_keep)
    (first
      | (go_at_call 14; refine (root_ok D al n cl base s _ HN.out (own_step HL2.out (Below.refl _ _).drew)).mono ?_; rw [HR.out]; rintro e w1 ⟨rfl, rfl⟩))
  have S1 := Lib.hid (S0.out.step (Below.refl _ _).drew)
  obtain ⟨w1, hw1⟩ : ∃ w1, w1 = w0.drew := ⟨_, rfl⟩
  rw [← hw1] at S1 ⊢
  clear y0 y1 hw1 YK HL2 S0
  obtain ⟨a, cc, K, hR1, hM1, hU1, hq1⟩ := S1.out.st.ref
  have HM1 := Lib.hid hM1
  have HU1 := Lib.hid hU1
  have HQ1 := Lib.hid hq1
  clear hR1 hM1 hU1 hq1
  obtain ⟨o0, o1, o2, o3, o4, o5, o6⟩ := S1.out.cells
  obtain ⟨er, her⟩ : ∃ er, unmErr Wf r pg = er := ⟨_, rfl⟩
  have HER := Lib.hid her
  obtain ⟨⟨p', x', k', g'⟩, hue⟩ : ∃ y, unmE' Wf r pg = y := ⟨_, rfl⟩
  have HUE := Lib.hid hue
  clear her hue
  go_wp2_with fail
  refine (S1.out.st.sys.unmap r pg IR.out HPG.out HUE.out).mono ?_
  rw [HER.out]
  rintro e w5 ⟨rfl, hg⟩
  have S5 := Lib.hid (S1.out.gone hg)
  clear hg o0 o1 o2 o3 o4 o5 o6
  obtain ⟨w6, hw6⟩ : ∃ w6, w6 = w5.alloc (.cells #[.bool p', .bool x', .bool k', .int .i64 g'] 37) := ⟨_, rfl⟩
  have A6 : Hid (Below w5.heap.size w5 w6) := Lib.hid (by rw [hw6]; exact (Below.refl _ _).alloc (Nat.le_refl _) _)
  have E6 : Hid (w6.heap[w5.heap.size]? = some (entO (p', x', k', g'))) := Lib.hid (by rw [hw6]; exact heap_alloc_new w5 _)
  have S6 := Lib.hid (S5.out.step A6.out)
  obtain ⟨o0, o1, o2, o3, o4, o5, o6⟩ := S6.out.cells
  have hwe := hw6
  rw [hw6] at o0 o1 o2 o3 o4 o5 o6
  go_wp2_with fail
  rw [← hwe]
  clear hwe hw6 o0 o1 o2 o3 o4 o5 o6
  obtain ⟨a6, cc6, K6, hR6, hM6, hU6, hq6⟩ := S6.out.st.ref
  refine (runmap_ok hR6 S6.out.st.b1 hM6 (by omega) hU6 r pg HUE.out).mono ?_
  rw [HER.out]
  rintro e w7 ⟨rfl, hd⟩
  have S7 := Lib.hid (S6.out.done hR6 hd)
  have E7 : Hid (w7.heap[w5.heap.size]? = some (entO (p', x', k', g'))) := Lib.hid (hd.only.kept E6.out fun e => by
    obtain ⟨cs, hcs⟩ := own_block hR6.row e
    have := E6.out
    rw [hcs] at this; cases this)
  have Q7 : Hid (K6.length ≤ q + 1) := Lib.hid (by omega)
  clear hd hR6 hM6 hU6 hq6
  obtain ⟨b5, hb5⟩ : ∃ b5, b5 = w5.heap.size := ⟨_, rfl⟩
  rw [← hb5] at E7 ⊢
  obtain ⟨w8, hw8⟩ : ∃ w8, w8 = w7.alloc (.cells #[.bool p', .bool x', .bool k', .int .i64 g'] 37) := ⟨_, rfl⟩
  have A8 : Hid (Below w7.heap.size w7 w8) := Lib.hid (by rw [hw8]; exact (Below.refl _ _).alloc (Nat.le_refl _) _)
  have E8 : Hid (w8.heap[w7.heap.size]? = some (entO (p', x', k', g'))) := Lib.hid (by rw [hw8]; exact heap_alloc_new w7 _)
  have S8 := Lib.hid (S7.out.step A8.out)
  obtain ⟨n0, n1, n2, n3⟩ := cells4 (below_block A8.out E7.out)
  obtain ⟨m0, m1, m2, m3⟩ := cells4 E8.out
  simp only at n0 n1 n2 n3 m0 m1 m2 m3
  rw [hw8] at n0 n1 n2 n3 m0 m1 m2 m3
  clear hb5
  go_wp2
  go_ret
  exact ⟨rfl, _, _, _, _, by rw [hw8] at S8; exact S8.out.st, Q7.out, Nat.le_succ _⟩
set_option maxHeartbeats 2000000 in
theorem play_else (h : PlSt W0 w tb sb X m base wb lb Wf c Wf c q D) (_ : q ≤ 99) (hm : m ≤ 1000) (d s pg : Int) (p x k : Bool) (g : Int) (hpg : I64 pg) (d1 : (d == 1) = false) (d2 : (d == 2) = false) (d3 : (d == 3) = false) (d4 : (d == 4) = false) (d5 : (d == 5) = false) :
    Calls Tryd.prog 11 #[.pointer (some ⟨tb, 0, none⟩), .pointer (some ⟨wb, 0, none⟩), .pointer (some ⟨lb, 0, none⟩), opV d s pg p x k g] w (PlPost W0 tb sb X m base wb lb q D) := by
  obtain ⟨w0, hw0⟩ : ∃ w0, w0 = w.alloc (.cells #[.int .i64 d, .int .i64 s, .int .i64 pg, .bool p, .bool x, .bool k, .int .i64 g] 39) := ⟨_, rfl⟩
  have S0 : Hid (OpSt W0 w0 tb sb X m base wb lb Wf c Wf c q D w.heap.size d s pg p x k g) := Lib.hid (by rw [hw0]; exact OpSt.start h d s pg p x k g)
  have HPG := Lib.hid hpg
  have HI : Hid (∀ s, I64 (rootD D s)) := Lib.hid fun s => rootD_I64 h.low hm s
  obtain ⟨al, cl, hl1, hl2⟩ := S0.out.st.row
  obtain ⟨n, hn⟩ : ∃ n, n = D.length := ⟨_, rfl⟩
  rw [← hn] at hl1 hl2
  have HN := Lib.hid hn
  have HL2 := Lib.hid hl2
  have y0 : w0.cell? ⟨lb, 0, none⟩ = some (.slice al n cl) := by rw [cell_of_row _ _ _ _ _ _ hl1]; rfl
  have y1 := S0.out.cells.2.1
  have YK : Hid (∀ V, Below w0.heap.size w0 V → V.cell? ⟨lb, 0, none⟩ = some (.slice al n cl) ∧ V.cell? ⟨w.heap.size, 1, none⟩ = some (.int .i64 s)) := Lib.hid fun V hV => by
    refine ⟨?_, (S0.out.step hV).cells.2.1⟩
    rw [cell_of_row _ _ _ _ _ _ (below_block hV hl1)]; rfl
  obtain ⟨r, hr⟩ : ∃ r, rootD D s = r := ⟨_, rfl⟩
  have HR := Lib.hid hr
  have IR : Hid (I64 r) := Lib.hid (by rw [← hr]; exact HI.out s)
  clear h hpg hn hl1 hl2 hr
  go_enter Tryd.func11, Tryd.ntmps11
  go_wp2_with fail
  rw [← hw0]
  clear hw0
  go_region_held3 (fun V => V.cell? ⟨lb, 0, none⟩ = some (.slice al n cl) ∧ V.cell? ⟨w.heap.size, 1, none⟩ = some (.int .i64 s)) (first | exact YK.out _ (Below.refl _ _).drew | go_keep)
    (first
      | (go_at_call 14; refine (root_ok D al n cl base s _ HN.out (own_step HL2.out (Below.refl _ _).drew)).mono ?_; rw [HR.out]; rintro e w1 ⟨rfl, rfl⟩))
  have S1 := Lib.hid (S0.out.step (Below.refl _ _).drew)
  obtain ⟨w1, hw1⟩ : ∃ w1, w1 = w0.drew := ⟨_, rfl⟩
  rw [← hw1] at S1 ⊢
  clear y0 y1 hw1 YK HL2 S0
  obtain ⟨a, cc, K, hR1, hM1, hU1, hq1⟩ := S1.out.st.ref
  have HM1 := Lib.hid hM1
  have HU1 := Lib.hid hU1
  have HQ1 := Lib.hid hq1
  clear hR1 hM1 hU1 hq1
  obtain ⟨o0, o1, o2, o3, o4, o5, o6⟩ := S1.out.cells
  go_wp2
  go_ret
  exact ⟨rfl, _, _, _, _, S1.out.st, Nat.le_succ _, Nat.le_succ _⟩
end
end Go.Proofs.YtkcecfghfohjcaaDoor

/- The contract of the law's play: Open. No condition. Written by tpl/gen_n50.py. -/
namespace Go.Proofs.YtkcecfghfohjcaaDoor
open Go.RowKit Go.Maps
set_option maxRecDepth 100000
attribute [local irreducible] allF tabF plF mapB hasB segN

theorem spcInfo : (Tryd.prog.info? 50).map (fun i => (i.zero, i.size, i.bytes)) = some (some (.agg #[.int .i64 0, .slice none 0 0]), 2, 32) := by kernel_rfl
theorem two_at (w : World) (a b : Value) (t : TypeId) : ∀ j u, [a, b][j]? = some u → (w.alloc (.cells #[a, b] t)).cell? ((⟨w.heap.size, 0, none⟩ : Addr).add j) = some u := fun j u hu => by
  rw [Addr.add_mid, Nat.zero_add, cell_of_row _ _ _ _ _ _ (heap_alloc_new w _)]
  simpa using hu
theorem Sys.other2 {W0 w : World} {tb sb n m c : Nat} {X : PIx} {W : Nat → Option Sp} {b base : Nat} {cs : Array Value} {t : TypeId} (hb : w.heap[b]? = some (.cells cs t (0, 0))) (h1 : W0.heap.size ≤ base) (h2 : base ≤ b) (_ : Sys W0 w tb sb X n m c W)
    (ht : t ≠ 55 ∧ t ≠ 162 ∧ t ≠ 129 ∧ t ≠ 121 ∧ t ≠ 117 ∧ t ≠ 89) : W0.heap.size ≤ b ∧ ∃ cs t, w.heap[b]? = some (.cells cs t (0, 0)) ∧ t ≠ 55 ∧ t ≠ 162 ∧ t ≠ 129 ∧ t ≠ 121 ∧ t ≠ 117 ∧ t ≠ 89 := ⟨Nat.le_trans h1 h2, cs, t, hb, ht⟩
theorem onlySet (w : World) (b o : Nat) (v : Value) : Only w (w.setCell ⟨b, o, none⟩ v) (fun y => y = b) :=
  let h := (Below.refl 0 w).setCell (p := ⟨b, o, none⟩) (Nat.zero_le b) v
  ⟨h.os, h.tape, h.output, h.size, fun _ _ hk => Below.heap_setCell _ _ _ _ hk⟩
/-- A space more, of the document's. -/
theorem RefW.opened {base : Nat} {w w5 : World} {wb n m c c5 x : Nat} {a a5 : Option Addr} {K : List Rec} (h : RefW base w wb n m a c K) (ho : w5.ownsRow base 50 2 (.slice a5 (K.length + 1) c5) (K.length + 1) (spcV K ++ [.int .i64 (x : Int), .slice none 0 0])) (hg : w.grownBy w5 (Value.slice a K.length c).ownBlock) :
    RefW base (w5.setCell ⟨wb, 0, none⟩ (.slice a5 (K.length + 1) c5)) wb n m a5 c5 (K ++ [(x, zF, .slice none 0 0)]) := by
  have hA : Only w w5 (fun y => (Value.slice a K.length c).ownBlock = some y) := Only.grownTo hg (fun _ e => e)
  have hS := onlySet w5 wb 0 (.slice a5 (K.length + 1) c5)
  have hk : ∀ y cs t, w.heap[y]? = some (.cells cs t (0, 0)) → t ≠ 50 → ¬ (Value.slice a K.length c).ownBlock = some y := fun y cs t hy ht e => own_kind h.row e hy (Ne.symm ht) rfl
  have hbx := hA.kept h.box (hk _ _ _ h.box (by decide))
  have hl : (K ++ [(x, zF, Value.slice none 0 0)]).length = K.length + 1 := by rw [List.length_append]; rfl
  refine ⟨h.low, ?_, ?_, fun i hi => ?_⟩
  · rw [hl]; exact heap_setCell_same w5 wb 0 _ _ (.slice a5 (K.length + 1) c5) hbx
  · rw [hl, spcV_app, spcV_one]
    exact ownsRow_only ho hS fun g hg e => by
      subst e
      obtain ⟨cs, hcs⟩ := own_block ho hg
      rw [hbx] at hcs
      cases hcs
  · rw [hl] at hi
    by_cases e : i < K.length
    · rw [getD_app_left _ _ _ _ e]
      have h1 := h.maps i e
      have h2 := ownsRow_only h1 hA fun g hg => by obtain ⟨cs, hcs⟩ := own_block h1 hg; exact hk _ _ _ hcs (by decide)
      exact ownsRow_only h2 hS fun g hg e => by
        subst e
        obtain ⟨cs, hcs⟩ := own_block h2 hg
        rw [hbx] at hcs
        cases hcs
    · obtain rfl : i = K.length := by omega
      have e2 := getD_app0 K [(x, zF, Value.slice none 0 0)] default
      rw [e2]
      have e3 : ([(x, zF, Value.slice none 0 0)] : List Rec).getD 0 default = (x, zF, Value.slice none 0 0) := rfl
      rw [e3]
      simp only [zF_all]
      exact World.ownsRow_nil _ _ _ _
section
variable {W0 w w5 : World} {tb sb m base wb lb c cr q x : Nat} {X : PIx} {Wf Wr : Nat → Option Sp} {D : List Nat}
theorem PlSt.openRef {a a5 : Option Addr} {cc c5 : Nat} {K : List Rec} (h : PlSt W0 w tb sb X m base wb lb Wf c Wr cr q D) (hR : RefW base w wb (m + 2) m a cc K) (hM : Match Wr K) (hU : cr + usedK K = m) (hx : Wr x = none) (hc : 1 ≤ cr) (ho : w5.ownsRow base 50 2 (.slice a5 (K.length + 1) c5) (K.length + 1) (spcV K ++ [.int .i64 (x : Int), .slice none 0 0])) (hg : w.grownBy w5 (Value.slice a K.length cc).ownBlock) :
    PlSt W0 (w5.setCell ⟨wb, 0, none⟩ (.slice a5 (K.length + 1) c5)) tb sb X m base wb lb Wf c (updW Wr x (some fun _ => z0)) (cr - 1) (K.length + 1) D := by
  have hA : Only w w5 (fun y => (Value.slice a K.length cc).ownBlock = some y ∨ y = wb) := Only.grownTo hg (fun _ e => Or.inl e)
  have hall := hA.trans ((onlySet w5 wb 0 (.slice a5 (K.length + 1) c5)).mono fun y e => Or.inr e)
  have hB : ∀ y, ((Value.slice a K.length cc).ownBlock = some y ∨ y = wb) → base ≤ y ∧ ∃ cs t, w.heap[y]? = some (.cells cs t (0, 0)) ∧ (t = 50 ∨ t = 31) := fun y hy => by
    rcases hy with e | rfl
    · obtain ⟨cs, hcs⟩ := own_block hR.row e
      exact ⟨own_ge hR.row e, cs, _, hcs, Or.inl rfl⟩
    · exact ⟨hR.low, _, _, hR.box, Or.inr rfl⟩
  have hop := hR.opened ho hg
  refine ⟨h.sys.apart hall fun y hy => ?_, ⟨a5, c5, K ++ [(x, zF, .slice none 0 0)], hop, hM.open_ hx, ?_, by rw [List.length_append]; rfl⟩, h.row.only hall fun k cs t hk ht e => ?_, h.b0, Nat.le_trans h.b1 hall.size, h.lbn, h.low⟩
  · obtain ⟨h1, cs, t, h2, h3⟩ := hB y hy
    exact ⟨Nat.le_trans h.b0 h1, cs, t, h2, by rcases h3 with rfl | rfl <;> exact ⟨by decide, by decide, by decide, by decide, by decide, by decide⟩⟩
  · rw [usedK_app]
    have : usedK [(x, zF, Value.slice none 0 0)] = 1 := by simp only [usedK, zF_tab]
    omega
  · obtain ⟨-, cs', t', h2, h3⟩ := hB k e
    rw [hk] at h2
    cases h2
    rcases ht with rfl | rfl <;> rcases h3 with h3 | h3 <;> exact absurd h3 (by decide)
theorem PlSt.openRow {a a5 : Option Addr} {cc c5 : Nat} (h : PlSt W0 w tb sb X m base wb lb Wf c Wr cr q D) (hl1 : w.heap[lb]? = some (.cells #[.slice a D.length cc] 32 (0, 0))) (hl2 : w.ownsRow base 3 1 (.slice a D.length cc) D.length (natsV D)) (hx : x < m) (ho : w5.ownsRow base 3 1 (.slice a5 (D.length + 1) c5) (D.length + 1) (natsV D ++ [.int .i64 (x : Int)])) (hg : w.grownBy w5 (Value.slice a D.length cc).ownBlock) :
    PlSt W0 (w5.setCell ⟨lb, 0, none⟩ (.slice a5 (D.length + 1) c5)) tb sb X m base wb lb Wf c Wr cr q (D ++ [x]) := by
  have hA : Only w w5 (fun y => (Value.slice a D.length cc).ownBlock = some y ∨ y = lb) := Only.grownTo hg (fun _ e => Or.inl e)
  have hA' : Only w w5 (fun y => (Value.slice a D.length cc).ownBlock = some y) := Only.grownTo hg (fun _ e => e)
  have hS := onlySet w5 lb 0 (.slice a5 (D.length + 1) c5)
  have hall := hA.trans (hS.mono fun y e => Or.inr e)
  have hB : ∀ y, ((Value.slice a D.length cc).ownBlock = some y ∨ y = lb) → W0.heap.size ≤ y ∧ ∃ cs t, w.heap[y]? = some (.cells cs t (0, 0)) ∧ (t = 3 ∨ t = 32) := fun y hy => by
    rcases hy with e | rfl
    · obtain ⟨cs, hcs⟩ := own_block hl2 e
      exact ⟨Nat.le_trans h.b0 (own_ge hl2 e), cs, _, hcs, Or.inl rfl⟩
    · exact ⟨h.lbn, _, _, hl1, Or.inr rfl⟩
  have hbx := hA'.kept hl1 (fun e => own_kind hl2 e hl1 (by decide) rfl)
  have hl : (D ++ [x]).length = D.length + 1 := by rw [List.length_append]; rfl
  refine ⟨h.sys.apart hall fun y hy => ?_, h.ref.only hall fun k cs t hk ht e => ?_, ⟨a5, c5, ?_, ?_⟩, h.b0, Nat.le_trans h.b1 hall.size, h.lbn, fun y hy => ?_⟩
  · obtain ⟨h1, cs, t, h2, h3⟩ := hB y hy
    exact ⟨h1, cs, t, h2, by rcases h3 with rfl | rfl <;> exact ⟨by decide, by decide, by decide, by decide, by decide, by decide⟩⟩
  · obtain ⟨-, cs', t', h2, h3⟩ := hB k e
    rw [hk] at h2
    cases h2
    rcases ht with rfl | rfl | rfl <;> rcases h3 with h3 | h3 <;> exact absurd h3 (by decide)
  · rw [hl]; exact heap_setCell_same w5 lb 0 _ _ (.slice a5 (D.length + 1) c5) hbx
  · rw [hl, natsV_snoc]
    exact ownsRow_only ho hS fun g hg e => by
      subst e
      obtain ⟨cs, hcs⟩ := own_block ho hg
      rw [hbx] at hcs
      cases hcs
  · rcases List.mem_append.1 hy with h1 | h1
    · exact h.low y h1
    · simp at h1; omega
end
section
variable {W0 w : World} {tb sb m base wb lb c q : Nat} {X : PIx} {Wf : Nat → Option Sp} {D : List Nat}
set_option maxHeartbeats 2000000 in
theorem play_open (h : PlSt W0 w tb sb X m base wb lb Wf c Wf c q D) (hq : q ≤ 99) (hm : m ≤ 1000) (hD : D.length ≤ 100) (s pg : Int) (p x k : Bool) (g : Int) (hpg : I64 pg) :
    Calls Tryd.prog 11 #[.pointer (some ⟨tb, 0, none⟩), .pointer (some ⟨wb, 0, none⟩), .pointer (some ⟨lb, 0, none⟩), opV 1 s pg p x k g] w (PlPost W0 tb sb X m base wb lb q D) := by
  obtain ⟨w0, hw0⟩ : ∃ w0, w0 = w.alloc (.cells #[.int .i64 1, .int .i64 s, .int .i64 pg, .bool p, .bool x, .bool k, .int .i64 g] 39) := ⟨_, rfl⟩
  have S0 : Hid (OpSt W0 w0 tb sb X m base wb lb Wf c Wf c q D w.heap.size 1 s pg p x k g) := Lib.hid (by rw [hw0]; exact OpSt.start h 1 s pg p x k g)
  have HPG := Lib.hid hpg
  have HI : Hid (∀ s, I64 (rootD D s)) := Lib.hid fun s => rootD_I64 h.low hm s
  obtain ⟨al, cl, hl1, hl2⟩ := S0.out.st.row
  obtain ⟨n, hn⟩ : ∃ n, n = D.length := ⟨_, rfl⟩
  rw [← hn] at hl1 hl2
  have HN := Lib.hid hn
  have HL2 := Lib.hid hl2
  have y0 : w0.cell? ⟨lb, 0, none⟩ = some (.slice al n cl) := by rw [cell_of_row _ _ _ _ _ _ hl1]; rfl
  have y1 := S0.out.cells.2.1
  have YK : Hid (∀ V, Below w0.heap.size w0 V → V.cell? ⟨lb, 0, none⟩ = some (.slice al n cl) ∧ V.cell? ⟨w.heap.size, 1, none⟩ = some (.int .i64 s)) := Lib.hid fun V hV => by
    refine ⟨?_, (S0.out.step hV).cells.2.1⟩
    rw [cell_of_row _ _ _ _ _ _ (below_block hV hl1)]; rfl
  obtain ⟨r, hr⟩ : ∃ r, rootD D s = r := ⟨_, rfl⟩
  have HR := Lib.hid hr
  have IR : Hid (I64 r) := Lib.hid (by rw [← hr]; exact HI.out s)
  clear h hpg hn hl1 hl2 hr
  go_enter Tryd.func11, Tryd.ntmps11
  go_wp2_with fail
  rw [← hw0]
  clear hw0
  go_region_held3 (fun V => V.cell? ⟨lb, 0, none⟩ = some (.slice al n cl) ∧ V.cell? ⟨w.heap.size, 1, none⟩ = some (.int .i64 s)) (first | exact YK.out _ (Below.refl _ _).drew | go_keep)
    (first
      | (go_at_call 14; refine (root_ok D al n cl base s _ HN.out (own_step HL2.out (Below.refl _ _).drew)).mono ?_; rw [HR.out]; rintro e w1 ⟨rfl, rfl⟩))
  have S1 := Lib.hid (S0.out.step (Below.refl _ _).drew)
  obtain ⟨w1, hw1⟩ : ∃ w1, w1 = w0.drew := ⟨_, rfl⟩
  rw [← hw1] at S1 ⊢
  clear y0 y1 hw1 YK HL2 S0
  obtain ⟨a, cc, K, hR1, hM1, hU1, hq1⟩ := S1.out.st.ref
  have HM1 := Lib.hid hM1
  have HU1 := Lib.hid hU1
  have HQ1 := Lib.hid hq1
  clear hR1 hM1 hU1 hq1
  obtain ⟨o0, o1, o2, o3, o4, o5, o6⟩ := S1.out.cells
  go_wp2_with fail
  clear o0 o1 o2 o3 o4 o5 o6
  refine S1.out.st.sys.open_.mono ?_
  rintro e w5 hpost
  have hp2 : (c = 0 ∧ e = .returned (.tuple #[.int .i64 0, .int .i64 3]) ∧ Gone W0 w1 w5 tb sb X (m + 2) m c Wf) ∨ (∃ x : Nat, x < m ∧ Wf x = none ∧ 1 ≤ c ∧ e = .returned (.tuple #[.int .i64 (x : Int), .int .i64 0]) ∧ Gone W0 w1 w5 tb sb X (m + 2) m (c - 1) (updW Wf x (some fun _ => z0))) := hpost
  clear hpost
  rcases hp2 with ⟨h0, rfl, hg⟩ | ⟨x, hx, hwx, hc1, rfl, hg⟩
  · have S5 := Lib.hid (S1.out.gone hg)
    clear hg
    go_wp2_with fail
    have S6 := Lib.hid (S5.out.step (Below.refl _ _).drew)
    obtain ⟨a6, cc6, K6, hR6, hM6, hU6, hq6⟩ := S5.out.st.ref
    obtain ⟨q6, hq6'⟩ : ∃ q6, q6 = K6.length := ⟨_, rfl⟩
    have CB : Hid (∀ V, Below w5.heap.size w5 V → (V.cell? ⟨wb, 0, none⟩ = some (.slice a6 q6 cc6) ∧ V.cell? ⟨wb, 1, none⟩ = some (.int .i64 ((m + 2 : Nat) : Int)) ∧ V.cell? ⟨wb, 2, none⟩ = some (.int .i64 (m : Int))) ∧ SpV V (.slice a6 q6 cc6) K6) := Lib.hid fun V hV => by
      have h1 := hR6.step hV
      have h2 := cells3 h1.box
      have h3 := h1.spv
      rw [← hq6'] at h2 h3
      exact ⟨h2, h3⟩
    have R6 := Lib.hid hR6
    have M6 := Lib.hid hM6
    have U6 := Lib.hid hU6
    have Q6 := Lib.hid hq6'
    have hq100 : q6 ≤ 100 := by omega
    have Q7 : Hid (q6 = q) := Lib.hid (by omega)
    obtain ⟨U, hU⟩ : ∃ U, usedK K6 = U := ⟨_, rfl⟩
    have HU := Lib.hid hU
    have hcu : c + U = m := by rw [← hU]; exact hU6
    clear hR6 hM6 hU6 hq6 hq6' hU
    have d1 : decide ((m : Int) ≤ (U : Int)) = true := decide_eq_true (by omega)
    have d1' : decide (m ≤ U) = true := decide_eq_true (by omega)
    clear hcu h0
    obtain ⟨y0, y1, y2⟩ := (CB.out w5 (Below.refl _ _)).1
    go_region_held3 (fun V => V.cell? ⟨wb, 0, none⟩ = some (.slice a6 q6 cc6) ∧ V.cell? ⟨wb, 1, none⟩ = some (.int .i64 ((m + 2 : Nat) : Int)) ∧ V.cell? ⟨wb, 2, none⟩ = some (.int .i64 (m : Int))) (first | exact (CB.out w6 B6.out).1 | exact (CB.out _ (Below.refl _ _).drew).1 | go_keep)
      (first
        | (go_at_call 13; refine (rused_ok K6 a6 q6 cc6 (m + 2) m _ Q6.out hq100 (CB.out _ (Below.refl _ _).drew).2).mono ?_; rw [HU.out]; rintro e w6 ⟨rfl, hb⟩; have B6 : Hid (Below w5.heap.size w5 w6) := Lib.hid ((Below.refl _ _).drew.trans hb); clear hb))
    have S7 := Lib.hid (S5.out.step B6.out)
    clear y0 y1 y2
    go_wp2
    go_ret
    exact ⟨rfl, _, _, _, _, S7.out.st, Nat.le_succ _, Nat.le_succ _⟩
  · have S5 := Lib.hid (S1.out.gone hg)
    have HX := Lib.hid hx
    have HWX := Lib.hid hwx
    have HC1 := Lib.hid hc1
    clear hg hwx
    go_wp2_with fail
    have S6 := Lib.hid (S5.out.step (Below.refl _ _).drew)
    obtain ⟨a6, cc6, K6, hR6, hM6, hU6, hq6⟩ := S5.out.st.ref
    obtain ⟨q6, hq6'⟩ : ∃ q6, q6 = K6.length := ⟨_, rfl⟩
    have CB : Hid (∀ V, Below w5.heap.size w5 V → (V.cell? ⟨wb, 0, none⟩ = some (.slice a6 q6 cc6) ∧ V.cell? ⟨wb, 1, none⟩ = some (.int .i64 ((m + 2 : Nat) : Int)) ∧ V.cell? ⟨wb, 2, none⟩ = some (.int .i64 (m : Int))) ∧ SpV V (.slice a6 q6 cc6) K6) := Lib.hid fun V hV => by
      have h1 := hR6.step hV
      have h2 := cells3 h1.box
      have h3 := h1.spv
      rw [← hq6'] at h2 h3
      exact ⟨h2, h3⟩
    have R6 := Lib.hid hR6
    have M6 := Lib.hid hM6
    have U6 := Lib.hid hU6
    have Q6 := Lib.hid hq6'
    have hq100 : q6 ≤ 100 := by omega
    have Q7 : Hid (q6 = q) := Lib.hid (by omega)
    obtain ⟨U, hU⟩ : ∃ U, usedK K6 = U := ⟨_, rfl⟩
    have HU := Lib.hid hU
    have hcu : c + U = m := by rw [← hU]; exact hU6
    clear hR6 hM6 hU6 hq6 hq6' hU
    have d1 : decide ((m : Int) ≤ (U : Int)) = false := decide_eq_false (by omega)
    have d1' : decide (m ≤ U) = false := decide_eq_false (by omega)
    clear hcu
    obtain ⟨J, hJ, hJ2⟩ := AtIs.of M6.out (x : Int)
    obtain ⟨rfl, -⟩ := hJ2.resolve_right (by
      rintro ⟨j, k2, F2, u, -, -, -, -, hs2, -⟩
      rw [spOf_nat, HWX.out] at hs2; cases hs2)
    have HJ := Lib.hid hJ
    clear hJ hJ2
    obtain ⟨y0, y1, y2⟩ := (CB.out w5 (Below.refl _ _)).1
    go_region_held3 (fun V => V.cell? ⟨wb, 0, none⟩ = some (.slice a6 q6 cc6) ∧ V.cell? ⟨wb, 1, none⟩ = some (.int .i64 ((m + 2 : Nat) : Int)) ∧ V.cell? ⟨wb, 2, none⟩ = some (.int .i64 (m : Int))) (first | exact (CB.out w6 B6.out).1 | exact (CB.out _ (Below.refl _ _).drew).1 | go_keep)
      (first
        | (go_at_call 13; refine (rused_ok K6 a6 q6 cc6 (m + 2) m _ Q6.out hq100 (CB.out _ (Below.refl _ _).drew).2).mono ?_; rw [HU.out]; rintro e w6 ⟨rfl, hb⟩; have B6 : Hid (Below w5.heap.size w5 w6) := Lib.hid ((Below.refl _ _).drew.trans hb); clear hb))
    clear y0 y1 y2
    obtain ⟨y0, y1, y2⟩ := (CB.out w6 B6.out).1
    go_wp2_with fail
    refine (rat_ok K6 a6 q6 cc6 (m + 2) m _ _ _ Q6.out hq100 (CB.out w6 B6.out).2 HJ.out).mono ?_
    rintro e w7 ⟨rfl, hb⟩
    have B7 : Hid (Below w5.heap.size w5 w7) := Lib.hid (B6.out.trans (hb.mono B6.out.size))
    clear hb y0 y1 y2
    obtain ⟨ii, hi, hi0, hi1, hi2⟩ := info_parts spcInfo
    obtain ⟨ij, hj, hj0, hj1, hj2⟩ := info_parts intInfoQ
    have A8 : Hid (Below w7.heap.size w7 (w7.alloc (.cells #[.int .i64 (x : Int), .slice none 0 0] 50))) := Lib.hid ((Below.refl _ _).alloc (Nat.le_refl _) _)
    have B8 : Hid (Below w5.heap.size w5 (w7.alloc (.cells #[.int .i64 (x : Int), .slice none 0 0] 50))) := Lib.hid (B7.out.trans (A8.out.mono B7.out.size))
    have S8 := Lib.hid (S5.out.step B8.out)
    have R8 := Lib.hid (R6.out.step B8.out)
    have O8 : Hid ((w7.alloc (.cells #[.int .i64 (x : Int), .slice none 0 0] 50)).ownsRow base 50 2 (.slice a6 q6 cc6) q6 (spcV K6)) := Lib.hid (by rw [Q6.out]; exact R8.out.row)
    obtain ⟨y0, y1, y2⟩ := (CB.out w7 B7.out).1
    have SZ8 := Lib.hid S8.out.st.b1
    go_upto_region 9 with fail
    go_cut [] (fun wx => PlSt W0 wx tb sb X m base wb lb (updW Wf x (some fun _ => z0)) (c - 1) (updW Wf x (some fun _ => z0)) (c - 1) (q6 + 1) D)
    case first =>
      go_wp2_with (at_builtin; refine wpList_append_own _ rfl (.tmp 62) (.tmp 65) 29 rfl base 50 ii (.agg #[.int .i64 0, .slice none 0 0]) 2 32 Tryd.underlying29 hi hi0 hi1 hi2 rfl (by decide) _ q6 _ rfl O8.out ⟨w7.heap.size, 0, none⟩ 1 1 [.int .i64 (x : Int), .slice none 0 0] rfl rfl (two_at _ _ _ _) (by simp [Value.oneCell']) (by unfold maxLen; omega) (by omega) SZ8.out ?_; intro v9 w9 ho hg _; obtain ⟨a9, c9, rfl⟩ := owns_slice ho; have S10 : Hid (PlSt W0 (w9.setCell ⟨wb, 0, none⟩ (.slice a9 (q6 + 1) c9)) tb sb X m base wb lb (updW Wf x (some fun _ => z0)) (c - 1) (updW Wf x (some fun _ => z0)) (c - 1) (q6 + 1) D) := Lib.hid (by have e := Q6.out; rw [e]; rw [e] at ho hg; exact S8.out.st.openRef R8.out M6.out U6.out HWX.out HC1.out ho hg); have bx9 := (Only.grownTo (B := fun y => (Value.slice a6 q6 cc6).ownBlock = some y) hg (fun _ e => e)).kept R8.out.box (fun e => own_kind O8.out e R8.out.box (by decide) rfl); have y9 : w9.cell? ⟨wb, 0, none⟩ = some (.slice a6 K6.length cc6) := (cells3 bx9).1; have f9 := frozen_of_row w9 wb 0 _ _ bx9; clear ho hg bx9)
      go_meet
      case rel => exact S10.out
    case rest =>
      have S10 := Lib.hid hcut
      obtain ⟨w10, hw10⟩ : ∃ w10, w10 = wc := ⟨_, rfl⟩
      rw [← hw10] at S10 ⊢
      clear hw10 hcut y0 y1 y2
      obtain ⟨al2, cl2, hl3, hl4⟩ := S10.out.row
      rw [← HN.out] at hl3 hl4
      have A11 : Hid (Below w10.heap.size w10 (w10.alloc (.cells #[.int .i64 (x : Int)] 3))) := Lib.hid ((Below.refl _ _).alloc (Nat.le_refl _) _)
      have S11 := Lib.hid (S10.out.step A11.out)
      have L3 := Lib.hid (below_block A11.out hl3)
      have L4 := Lib.hid (own_step hl4 A11.out)
      have SZ11 := Lib.hid S11.out.b1
      have z0' : w10.cell? ⟨lb, 0, none⟩ = some (.slice al2 n cl2) := by rw [cell_of_row _ _ _ _ _ _ hl3]; rfl
      have hn99 : n ≤ 100000 := by have := HN.out; omega
      clear hl3 hl4
      go_wp2_with (at_builtin; refine wpList_append_own _ rfl (.tmp 72) (.tmp 74) 32 rfl base 3 ij (.int .i64 0) 1 8 Tryd.underlying32 hj hj0 hj1 hj2 rfl (by decide) _ n _ rfl L4.out ⟨w10.heap.size, 0, none⟩ 1 1 [.int .i64 (x : Int)] rfl rfl (one_atQ _ _ _) (by simp [Value.oneCell']) (by unfold maxLen; omega) (by omega) SZ11.out ?_; intro v12 w12 ho hg _; obtain ⟨a12, c12, rfl⟩ := owns_slice ho; have S13 : Hid (PlSt W0 (w12.setCell ⟨lb, 0, none⟩ (.slice a12 (n + 1) c12)) tb sb X m base wb lb (updW Wf x (some fun _ => z0)) (c - 1) (updW Wf x (some fun _ => z0)) (c - 1) (q6 + 1) (D ++ [x])) := Lib.hid (by have e := HN.out; have l3 := L3.out; have l4 := L4.out; rw [e] at ho hg l3 l4; rw [e]; exact S11.out.openRow l3 l4 HX.out ho hg); have bx12 := (Only.grownTo (B := fun y => (Value.slice al2 n cl2).ownBlock = some y) hg (fun _ e => e)).kept L3.out (fun e => own_kind L4.out e L3.out (by decide) rfl); have y12 : w12.cell? ⟨lb, 0, none⟩ = some (.slice al2 n cl2) := (by rw [cell_of_row _ _ _ _ _ _ bx12]; rfl); have f12 := frozen_of_row w12 lb 0 _ _ bx12; clear ho hg bx12)
      go_ret
      exact ⟨rfl, _, _, _, _, S13.out, by have := Q7.out; omega, by rw [List.length_append]; exact Nat.le_refl _⟩
end
end Go.Proofs.YtkcecfghfohjcaaDoor
