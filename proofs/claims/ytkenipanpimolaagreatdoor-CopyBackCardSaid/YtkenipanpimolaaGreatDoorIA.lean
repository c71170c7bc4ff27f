/- Texts of mine, joined: R4 Z1 Z2 Z3 Z4. What each says and under which conditions stands at its head, below. -/
import Derived.Test.YtkenipanpimolaaGreatDoorGR
import Derived.Test.YtkenipanpimolaaGreatDoorHN
import Derived.Test.YtkenipanpimolaaGreatDoorHT
import Derived.Test.YtkenipanpimolaaGreatDoorHV
import Derived.Test.YtkenipanpimolaaGreatDoorR3
/- A range over a function that tells so many elements, whatever its rounds do: they may change all but the ranges' own records and the iterator's boxes. No condition; nothing of a program. -/
namespace Go.Proofs.YtkenipanpimolaaGreatDoor
open Go.RowKit Go.Shelf
set_option maxRecDepth 100000

/-- A range's own record. -/
def lpO : Obj → Bool
  | .loop _ => true
  | .deferred _ => true
  | _ => false
/-- What a round leaves as it was: the blocks of K, and all ranges' records. -/
structure KeepL (K : Nat → Prop) (W W' : World) : Prop where
  os : W'.os = W.os
  tape : W'.tape = W.tape
  output : W'.output = W.output
  size : W.heap.size ≤ W'.heap.size
  same : ∀ k o, W.heap[k]? = some o → (K k ∨ lpO o = true) → W'.heap[k]? = some o
theorem KeepL.refl (K : Nat → Prop) (W : World) : KeepL K W W := ⟨rfl, rfl, rfl, Nat.le_refl _, fun _ _ h _ => h⟩
theorem KeepL.trans {K : Nat → Prop} {X Y Z : World} (h : KeepL K X Y) (k : KeepL K Y Z) : KeepL K X Z :=
  ⟨k.os.trans h.os, k.tape.trans h.tape, k.output.trans h.output, Nat.le_trans h.size k.size, fun i o hi hK => k.same i o (h.same i o hi hK) hK⟩
/-- What an iterator's own doings leave: the blocks below B, and all but ranges' records. -/
structure StayL (B : Nat) (W W' : World) : Prop where
  bel : Below B W W'
  rows : ∀ (k : Nat) (o : Obj), W.heap[k]? = some o → lpO o = false → W'.heap[k]? = some o
theorem StayL.of_below {B : Nat} {W W' : World} (h : Below W.heap.size W W') (hB : B ≤ W.heap.size) : StayL B W W' := ⟨h.mono hB, fun k _ hk _ => (h.block k (lt_of_block hk)).trans hk⟩
theorem StayL.mono {B B' : Nat} {W W' : World} (h : StayL B W W') (hB : B' ≤ B) : StayL B' W W' := ⟨h.bel.mono hB, h.rows⟩
theorem StayL.put {B l : Nat} {W : World} {o : Obj} (o' : Obj) (h : W.heap[l]? = some o) (ho : lpO o = true) (hB : B ≤ l) : StayL B W (W.putObj l o') :=
  ⟨below_put _ _ _ _ hB, fun k ok hk hT => (World.putObj_heap_other (by rintro rfl; rw [h] at hk; cases hk; rw [ho] at hT; cases hT)).trans hk⟩
/-- How the round of an element ends, for who ranges: no range here is left. -/
def ToldL (K : Nat → Prop) (J : World → Prop) (W : World) (e : Ending) (W' : World) : Prop := KeepL K W W' ∧ e = .returned (.bool true) ∧ J W'
/-- **An iterator that tells N elements, in order**, whatever the rounds do. -/
def SeqL (P : Program) (g : Nat) (lb : Array Value) (encs : Nat → Array Value) (N : Nat) (K : Nat → Prop) (w : World) : Prop :=
  ∀ (l : Nat) (J : Nat → World → Prop) (W : World), (∀ k, K k → k < w.heap.size ∧ W.heap[k]? = w.heap[k]?) → w.heap.size ≤ W.heap.size →
    (∀ k V V', J k V → StayL W.heap.size V V' → J k V') →
    (∀ k V m, k < N → J k V → W.heap.size ≤ V.heap.size → YieldAt Fence.wide m P l (encs k) V (ToldL K (J (k + 1)) V)) →
    J 0 W →
    Calls P g (#[.func (.yield l) #[] #[]] ++ lb) W fun e W' => (∃ v, e = .returned v) ∧ J N W'
/-- How the body of a round ends. -/
def endL (K : Nat → Prop) (I : World → Prop) (W : World) : Exit → Act → World → Prop
  | .normal, _, W' => KeepL K W W' ∧ I W'
  | _, _, _ => False
/-- **Who ranges over such an iterator, and never leaves.** I: between two rounds; Ax: what a round begins with. -/
theorem range_l {P : Program} {n : Nat} {g : Operand} {ps : Array Tmp} {assign body : Code} {Q : Exit → Act → World → Prop} {a : Act} {w : World} {gf : Nat} {lb : Array Value}
    (hg : a.eval g = .func (.func gf) #[] lb) (eg : ∀ args w, (callFunc gf args).run P w = .ok (.enter gf args) w) {encs : Nat → Array Value} {N : Nat} {K : Nat → Prop} {w0 : World} (hseq : SeqL P gf lb encs N K w0)
    (hK0 : ∀ k, K k → k < w0.heap.size ∧ w.heap[k]? = w0.heap[k]?) (hz0 : w0.heap.size ≤ w.heap.size)
    (hps : ∀ x, (encs x).size = ps.size) (I : Nat → World → Prop) (hI : ∀ k V V', I k V → StayL w.heap.size V V' → I k V') (h0 : I 0 w)
    (Ax : Nat → Act → World → Prop) (hAx : ∀ x a', OwnFrom w.heap.size (fun (_ : Unit) W => Ax x a' W))
    (hassign : ∀ (l : Nat) (x : Nat) (W : World) (C : Act → World → Prop), I x W → w.heap.size ≤ W.heap.size → (∀ a' W', KeepL K W W' → I x W' → Ax x a' W' → C a' W') →
      assign.wpIn (Fence.wide.inRound l) (n - 1 - 1) P (Exit.then C (fun _ _ _ => False)) { tmps := (ps.zip (encs x)).foldl (fun t (p, v) => t.setIfInBounds p v) a.tmps, defers := [] } W)
    (hbody : ∀ (l : Nat) (x : Nat) (a' : Act) (W : World), x < N → I x W → w.heap.size ≤ W.heap.size → Ax x a' W → body.wpIn (Fence.wide.inRound l) (n - 1 - 1) P (endL K (I (x + 1)) W) a' W)
    (hdone : ∀ (D : Nat) (W : World), w.heap.size ≤ D → I N W → W.heap[D]? = some (.deferred (some [])) → Q .normal { a with defers := { target := .collected D, args := #[] } :: a.defers } W) :
    (Code.rangeFunc g ps assign body).wpIn Fence.wide n P Q a w := by
  refine wpIn_rangeFunc fun fn _ => ?_
  obtain ⟨s, hs⟩ : ∃ s, s = w.heap.size := ⟨_, rfl⟩
  obtain ⟨rec, hrec⟩ : ∃ rec : LoopState → Option Code → Loop, rec = fun st pe => { state := st, pending := pe, fn, tmps := a.tmps, params := ps, assign, body, defers := w.heap.size } := ⟨_, rfl⟩
  obtain ⟨W1, hW1⟩ : ∃ W1, W1 = (w.alloc (.deferred (some []))).alloc (.loop (rec .ready none)) := ⟨_, rfl⟩
  have hz : W1.heap.size = s + 2 := by rw [hW1, hs]; simp
  have hB1 : Below s w W1 := by rw [hW1, hs]; exact below_two w _ _
  have hL1 : W1.heap[s + 1]? = some (.loop (rec .ready none)) := by rw [hW1, hs]; exact heap_alloc2_new w _ _
  have hD1 : W1.heap[s]? = some (.deferred (some [])) := by rw [hW1, hs]; exact (Below.heap_alloc _ _ _ (by simp)).trans (World.alloc_heap_new w _)
  rw [← hs] at hz0 hI hAx hassign hbody hdone
  have hK : ∀ k, K k → k < s := fun k hk => by have := (hK0 k hk).1; omega
  have nL : ¬ K (s + 1) := fun h => by have := hK _ h; omega
  refine ⟨s + 1, [{ target := .collected s, args := #[] }], W1, { target := .fn (.func gf) lb, args := #[.func (.yield (s + 1)) #[] #[]] }, W1, gf, #[.func (.yield (s + 1)) #[] #[]] ++ lb, W1, ?_, ?_, fun _ _ => trivial, ?_, fun h => (by cases h), ?_⟩
  · rw [hW1, hs, hrec]; exact run_enterLoop_outer _ _ _ _ _
  · simp only [resolve, hg]
    simp [go_sem]
  · simp [invoke, go_sem, eg]
  refine callsIn_wide.2 ((hseq (s + 1)
    (fun q W => I q W ∧ (∃ B, W.heap[s + 1]? = some (.loop (rec .ready none)) ∧ W.heap[s]? = some (.deferred (some [])) ∧ B = s))
    W1 (fun k hk => ⟨(hK0 k hk).1, (hB1.block k (hK k hk)).trans (hK0 k hk).2⟩) (by omega)
    (fun q V V' h hb => by
      obtain ⟨hi, B, hl, hd, rfl⟩ := h
      exact ⟨hI _ _ _ hi (hb.mono (by omega)), _, (hb.bel.block _ (by omega)).trans hl, (hb.bel.block _ (by omega)).trans hd, rfl⟩)
    ?_ ⟨hI _ _ _ h0 (StayL.of_below (hs ▸ hB1) (by omega)), _, hL1, hD1, rfl⟩).mono ?_)
  · rintro q W m hq ⟨hi, B, hl, hd, hB⟩ hsz
    have hy := run_yield (P := P) (args := encs q) hl (by rw [hrec]; exact hps q)
    rw [hrec] at hy
    refine ⟨fn, _, assign, body, hy, round_any (m := n - 1 - 1) (roundIn_of_wpIn trivial (hassign _ q W _ hi (by omega) ?_))⟩
    clear hy
    intro a' Wa ka ia xa
    have la := ka.same _ _ hl (Or.inr rfl)
    have da := ka.same _ _ hd (Or.inr rfl)
    have za := ka.size
    refine ⟨_, run_beginRound la (by rw [hrec]), ?_⟩
    obtain ⟨Wb, hWb⟩ : ∃ Wb, Wb = Wa.putObj (s + 1) (.loop { rec .ready none with state := .busy }) := ⟨_, rfl⟩
    have zb : Wb.heap.size = Wa.heap.size := by rw [hWb]; simp [World.putObj]
    have lb' : Wb.heap[s + 1]? = some (.loop { rec .ready none with state := .busy }) := by rw [hWb]; exact World.putObj_heap_same (by omega)
    have db : Wb.heap[s]? = some (.deferred (some [])) := by rw [hWb]; exact (World.putObj_heap_other (by omega)).trans da
    have ib : I q Wb := by rw [hWb]; exact hI _ _ _ ia (StayL.put _ la rfl (by omega))
    have xb : Ax q a' Wb := by rw [hWb]; exact (hAx q a').putObj (s := ()) _ xa (by omega) la rfl
    have kb : ∀ k, k ≠ s + 1 → ∀ o, W.heap[k]? = some o → (K k ∨ lpO o = true) → Wb.heap[k]? = some o := fun k hk o ho hh => by rw [hWb]; exact (World.putObj_heap_other (by omega)).trans (ka.same k o ho hh)
    have wb : Wb.os = W.os ∧ Wb.tape = W.tape ∧ Wb.output = W.output := by rw [hWb]; exact ⟨ka.os, ka.tape, ka.output⟩
    rw [← hWb]
    clear hWb
    refine wpIn_mono (hbody _ q a' Wb hq ib (by omega) xb) ?_
    rintro e a3 W3 hp
    cases e with
    | normal =>
      obtain ⟨k3, i3⟩ := hp
      have z3 := k3.size
      have l3 := k3.same _ _ lb' (Or.inr rfl)
      have e3 := run_endRound (P := P) none l3
      rw [hrec] at e3 hl ⊢
      refine ⟨_, _, e3, ⟨k3.os.trans wb.1, k3.tape.trans wb.2.1, k3.output.trans wb.2.2, by simp [World.putObj]; omega, fun k o ho hh => ?_⟩, rfl, hI _ _ _ i3 (StayL.put _ l3 rfl (by omega)), s, World.putObj_heap_same (by omega), (World.putObj_heap_other (by omega)).trans (k3.same _ _ db (Or.inr rfl)), rfl⟩
      by_cases hks : k = s + 1
      · subst hks
        rw [hl] at ho
        rw [← ho]
        exact World.putObj_heap_same (by omega)
      · exact (World.putObj_heap_other (by omega)).trans (k3.same k o (kb k hks o ho hh) hh)
    | ret => exact hp.elim
    | exit id => exact hp.elim
    | goto t => exact hp.elim
    | panic ch => exact hp.elim
    | outgrown => exact hp.elim
  · rintro e W2 ⟨⟨v, rfl⟩, hi, B, hl, hd, hB⟩
    have e2 := run_endLoop (P := P) hl (by rw [hrec]; simp)
    rw [hrec] at e2
    exact ⟨none, _, e2, hdone s _ (Nat.le_refl _) (hI _ _ _ hi (StayL.put _ hl rfl (by omega))) ((World.putObj_heap_other (by omega)).trans hd)⟩
end Go.Proofs.YtkenipanpimolaaGreatDoor

/- Spaces beside a range's own records; a row of one's own, filled place by place; the contracts of package copy's iterator. Condition: the listed tables read as laid. -/
namespace Go.Proofs.YtkenipanpimolaaGreatDoor
open Go.RowKit Go.Shelf Go.Maps
attribute [local go_sem] Oper.semAt_some
set_option maxRecDepth 100000

theorem lp_kind {o : Obj} (h : lpO o = true) : kindOf o = none ∧ mapO o = false := by cases o <;> simp_all [lpO, kindOf, mapO]
theorem not_movL {w : World} {k : Nat} {o : Obj} (h : w.heap[k]? = some o) (ho : lpO o = true) : ¬ Mov w k := by
  rintro ⟨o', ho', hk⟩
  rw [h] at ho'
  rw [← Option.some.inj ho', (lp_kind ho).1, (lp_kind ho).2] at hk
  simp at hk
theorem noAr_lp {w : World} {k : Nat} {o : Obj} (h : w.heap[k]? = some o) (ho : lpO o = true) : NoAr w k := fun p x y b ⟨h0, _⟩ => by
  cases o <;> simp [World.cell?, h, lpO] at h0 ho
theorem StayL.only {B : Nat} {w w' : World} (h : StayL B w w') : Only w w' (fun k => B ≤ k ∧ ∃ o, w.heap[k]? = some o ∧ lpO o = true) :=
  ⟨h.bel.os, h.bel.tape, h.bel.output, h.bel.size, fun k hk hB => by
    have ho : w.heap[k]? = some w.heap[k] := Array.getElem?_eq_getElem hk
    by_cases hb : k < B
    · exact h.bel.block k hb
    · cases hl : lpO w.heap[k] with
      | false => exact (h.rows k _ ho hl).trans ho.symm
      | true => exact absurd ⟨by omega, _, ho, hl⟩ hB⟩
theorem KeepB.stay {w V V' : World} (h : KeepB w V) {B : Nat} (hs : StayL B V V') (hB : w.heap.size ≤ B) : KeepB w V' :=
  ⟨⟨hs.bel.os.trans h.only.os, hs.bel.tape.trans h.only.tape, hs.bel.output.trans h.only.output, Nat.le_trans h.only.size hs.bel.size, fun j hj hm => (hs.bel.block j (by omega)).trans (h.only.block j hj hm)⟩⟩
theorem KeepL.of_keep {K : Nat → Prop} {w w' : World} (h : KeepB w w') (hK : ∀ k o, w.heap[k]? = some o → K k → ¬ Mov w k) : KeepL K w w' :=
  ⟨h.only.os, h.only.tape, h.only.output, h.only.size, fun k o ho hh => h.only.kept ho (hh.elim (hK k o ho) (not_movL ho))⟩
section
variable {W0 w : World} {I : SIx} {q : Nat} {Lb : List Nd} {G : Int → Option Pc} {pr : Int → Nat → Bool} {rd : Int → Nat → Nat → Int}
theorem BL.stayL {c : Nat} {Q : Nat → Nat} {V : Nat → Nat → Int} {D : Int → Option Sp} (h : BL W0 w I c Q V Lb G D) {w' : World} {B : Nat} (hs : StayL B w w') (hB : W0.heap.size ≤ B) : BL W0 w' I c Q V Lb G D := by
  obtain ⟨W, Pb, h1, h2⟩ := h
  have ho := hs.only
  have hno : ∀ {k : Nat} {o : Obj}, w.heap[k]? = some o → lpO o = false → ¬ (B ≤ k ∧ ∃ o, w.heap[k]? = some o ∧ lpO o = true) := fun {k o} hk hf hC => by
    obtain ⟨_, o', ho', hl⟩ := hC
    rw [hk] at ho'
    rw [← Option.some.inj ho', hf] at hl
    cases hl
  have hmov : ∀ {k : Nat}, Mov w k → ¬ (B ≤ k ∧ ∃ o, w.heap[k]? = some o ∧ lpO o = true) := fun {k} hm hC => by
    obtain ⟨_, o, ho', hl⟩ := hC
    exact not_movL ho' hl hm
  refine ⟨W, Pb, ⟨h1.sys.kept ho (fun k hk hC => ?_) (ho.old h1.sys.below h1.sys.below.size (fun k hk => by omega)), h1.bud.kept (ho.block _ (lt_of_block h1.bud.box) (hno h1.bud.box rfl)) (fun k hk => ho.block _ (h1.bud.lt hk) (hmov (h1.bud.noAr k hk).2)), ho.kept h1.box (hno h1.box rfl), h1.map.same (ho.block _ h1.map.lt ?_), fun i s hi => ?_, h1.nbm, h1.nmm, h1.nod, h1.nsp, h1.ne, h1.fz.only ho (fun _ _ hk _ => hno hk rfl) (fun _ _ => Or.inl)⟩, h2⟩
  · obtain ⟨_, o, hoo, hx⟩ := h1.sys.kind k hk
    obtain ⟨_, o', ho', hl⟩ := hC
    rw [hoo] at ho'
    obtain rfl := Option.some.inj ho'
    rw [(lp_kind hl).1] at hx
    rcases hx with ⟨_, e⟩ | hx
    · refine not_movL hoo hl (h1.sys.noAr k ?_).2
      rcases e with e | e
      · exact Or.inl (Or.inr (Or.inl e))
      · exact Or.inr e
    · simp at hx
  · obtain ⟨es, ck, hm⟩ := h1.map.isMap
    exact hno hm rfl
  · obtain ⟨a, bb, d⟩ := h1.sp i s hi
    exact ⟨ho.kept a (hno a rfl), bb.only ho fun k ⟨_, o, hk, hl⟩ => noAr_lp hk hl, d⟩
end

/-- A row of words, its first k filled. -/
def rowW (f : Nat → Int) (k n : Nat) : List Int := (List.range n).map fun j => if j < k then f j else 0
theorem rowW_len (f : Nat → Int) (k n : Nat) : (rowW f k n).length = n := by simp [rowW]
theorem rowW_zero (f : Nat → Int) (n : Nat) : rowW f 0 n = List.replicate n 0 := by
  refine List.ext_getElem (by simp [rowW]) fun i h1 h2 => ?_
  simp [rowW]
theorem rowW_set (f : Nat → Int) (k n : Nat) : (rowW f k n).set k (f k) = rowW f (k + 1) n := by
  refine List.ext_getElem (by simp [rowW]) fun i h1 h2 => ?_
  rw [List.getElem_set]
  simp only [rowW, List.getElem_map, List.getElem_range]
  by_cases e : k = i
  · subst e; simp
  · rw [if_neg e]
    by_cases e2 : i < k
    · rw [if_pos e2, if_pos (by omega)]
    · rw [if_neg e2, if_neg (by omega)]
theorem rowW_all (f : Nat → Int) (n : Nat) : rowW f n n = (List.range n).map f := by
  unfold rowW
  exact List.map_congr_left fun j hj => by rw [if_pos (List.mem_range.1 hj)]

def boxN (n : Int) : Obj := .cells #[.int .i64 n] 3 (0, 0)
def boxW (x : Int) : Obj := .cells #[.int .u32 x] 23 (0, 0)
/-- An address, and its place. -/
def encA (va : Int) (k : Nat) : Array Value := #[.int .i64 (k : Int), .int .u32 (va + k)]
theorem mkAddr (va : Int) (n : Nat) (w : World) : Calls Tryz.prog 27 #[.int .u32 va, .int .i64 (n : Int)] w fun e w' => e = .returned (.func (.func 63) #[] #[.pointer (some ⟨w.heap.size + 1, 0, none⟩), .pointer (some ⟨w.heap.size, 0, none⟩)]) ∧ w' = (w.alloc (.cells #[.int .u32 va] 23)).alloc (.cells #[.int .i64 (n : Int)] 3) := by
  have hmf : ∀ (fn : Fn) (first cap : Array Value) (w : World), (Instr.makeFunc fn first cap).run Tryz.prog w = .ok (.func fn first cap) w := fun _ _ _ _ => rfl
  go_enter Tryz.func27, Tryz.ntmps27
  go_wp2
  go_ret
  exact ⟨rfl, rfl⟩
structure AdRel (W : World) (bn bv n : Nat) (va : Int) (J : Nat → World → Prop) (k : Nat) (wr : World) : Prop where
  le : k ≤ n
  told : J k wr
  size : W.heap.size ≤ wr.heap.size
  bn : wr.heap[bn]? = some (boxN n)
  bv : wr.heap[bv]? = some (boxW va)
set_option maxHeartbeats 4000000 in
theorem addr_seq (bn bv n : Nat) (va : Int) (hva : 0 ≤ va ∧ va + n ≤ 4294967296) (hn : n ≤ 100000) (w : World) (h1 : w.heap[bn]? = some (boxN n)) (h2 : w.heap[bv]? = some (boxW va)) :
    SeqL Tryz.prog 63 #[.pointer (some ⟨bn, 0, none⟩), .pointer (some ⟨bv, 0, none⟩)] (encA va) n (fun k => k = bn ∨ k = bv) w := by
  intro l J W hK hz hJ hY h0
  have R0 : Hid (AdRel W bn bv n va J 0 W) := Lib.hid ⟨Nat.zero_le _, h0, Nat.le_refl _, (hK bn (Or.inl rfl)).2.trans h1, (hK bv (Or.inr rfl)).2.trans h2⟩
  have HY := Lib.hid hY
  have c0 := cell_of_one R0.out.bn
  clear h1 h2 hK hz hJ hY h0
  refine (callsIn_wide (n := 7)).1 ?_
  refine callsIn_of_wp Tryz.func63 rfl trivial ?_ rfl
  simp only [Tryz.ntmps63, List.size_toArray, List.length_cons, List.length_nil, Nat.reduceAdd, Nat.reduceSub, Array.replicate_succ, Array.replicate_zero, List.push_toArray, List.append_toArray, List.nil_append, List.cons_append]
  gi_wp2
  clear c0
  gi_loopw [6] (fun i wr => ∃ k : Nat, i = .int .i64 (k : Int) ∧ AdRel W bn bv n va J k wr) (fun i _ => (n - (intOf i).toNat))
  case atStart => exact ⟨0, rfl, R0.out⟩
  case round =>
    obtain ⟨k, rfl, hR⟩ := hrel
    have RR := Lib.hid hR
    have hk1 := hR.le
    have q1 := cell_of_one hR.bv
    clear hR
    by_cases hlt : k < n
    · obtain ⟨fn, tmps, assign, body, hy, hR⟩ := HY.out k wr 6 hlt RR.out.told RR.out.size
      dsimp only [encA] at hy
      have HR := Lib.hid hR
      have d1 : IntKind.u32.wrap (k : Int) = (k : Int) := IntWalk.u32_in _ (by omega)
      have d2 : IntKind.u32.wrap (va + (k : Int)) = va + (k : Int) := IntWalk.u32_in _ (by omega)
      clear hR
      gi_wp2
      refine HR.out.mono ?_
      rintro e W3 ⟨hk, rfl, hJ3⟩
      have R3 : Hid (AdRel W bn bv n va J (k + 1) W3) := Lib.hid ⟨hlt, hJ3, Nat.le_trans RR.out.size hk.size, hk.same bn _ RR.out.bn (Or.inl (Or.inl rfl)), hk.same bv _ RR.out.bv (Or.inl (Or.inr rfl))⟩
      clear hk hJ3
      gi_wp2
      go_roundw
      case rel => exact ⟨k + 1, by go_num, R3.out⟩
      case measure => simp [intOf]; omega
    · obtain rfl : k = n := by omega
      clear hlt
      gi_wp2
      go_end0
      exact ⟨⟨_, rfl⟩, RR.out.told⟩
end Go.Proofs.YtkenipanpimolaaGreatDoor

/- What package copy's calls carry along; the contract of In, over what Reach and Load do. No condition. -/
namespace Go.Proofs.YtkenipanpimolaaGreatDoor
open Go.RowKit Go.Shelf Go.Maps
attribute [local go_sem] Oper.semAt_some
set_option maxRecDepth 100000

/-- The types of boxes of one's own: none that spaces are made of. -/
def ownT (t : TypeId) : Prop := (notMov t ∧ t ≠ 83 ∧ t ≠ 78 ∧ t ≠ 142 ∧ t ≠ 153) ∧ t ≠ 88 ∧ t ≠ 99
instance (t : TypeId) : Decidable (ownT t) := by unfold ownT; infer_instance
section
variable {W0 w : World} {I : SIx} {q : Nat} {Lb : List Nd} {G : Int → Option Pc} {pr : Int → Nat → Bool} {rd : Int → Nat → Nat → Int}
theorem Big.ownBox {c : Nat} {W : Nat → Option Sp} {Q : Nat → Nat} {V : Nat → Nat → Int} {Pb : Pt} (h1 : Big W0 w I c W Q V Pb Lb G) {w' : World} {g : Nat} {cs : Array Value} {t : TypeId} {z : Nat × Nat} (hb : w.heap[g]? = some (.cells cs t z)) (ht : ownT t) (hn : W0.heap.size ≤ g) (hA : NoAr w g) (ho : Only w w' (fun k => k = g)) : Big W0 w' I c W Q V Pb Lb G := by
  have hnm : ¬ Mov w g := not_mov hb ht.1.1
  have key : ∀ {k : Nat} {cs' : Array Value} {t' : TypeId} {z' : Nat × Nat}, w.heap[k]? = some (.cells cs' t' z') → t ≠ t' → k ≠ g := fun {k cs' t' z'} hk hne e => by
    rw [e, hb] at hk
    injection hk with hk
    injection hk with _ hk
    exact hne hk
  refine ⟨h1.sys.kept ho (fun k hk hkb => ?_) (ho.old h1.sys.below h1.sys.below.size (fun k hk => by rw [hk]; exact hn)), h1.bud.kept (ho.block _ (lt_of_block h1.bud.box) (key h1.bud.box ht.2.1)) (fun k hk => ho.block _ (h1.bud.lt hk) fun hkb => hnm (hkb ▸ (h1.bud.noAr k hk).2)), ho.kept h1.box (key h1.box ht.2.2), h1.map.same (ho.block _ h1.map.lt fun hk => ?_), fun i s hi => ?_, h1.nbm, h1.nmm, h1.nod, h1.nsp, h1.ne, h1.fz.only ho (fun _ _ hk _ => key hk ht.1.1.2.2.1) (fun _ _ => Or.inl)⟩
  · obtain ⟨_, o, hoo, hx⟩ := h1.sys.kind k hk
    rw [hkb, hb] at hoo
    rw [← Option.some.inj hoo] at hx
    simp only [kindOf, Option.some.injEq, reduceCtorEq, false_and, false_or] at hx
    obtain ⟨⟨m1, m2, m3, m4⟩, n1, n2, n3, n4⟩ := ht.1
    rcases hx with e | e | e | e | e | e
    · exact m1 e
    · exact m2 e
    · exact n1 e
    · exact n2 e
    · exact n3 e
    · exact n4 e
  · obtain ⟨es, ck, hm⟩ := h1.map.isMap
    rw [hk, hb] at hm; cases hm
  · obtain ⟨a, bb, d⟩ := h1.sp i s hi
    exact ⟨ho.kept a (key a ht.1.1.2.2.2), bb.only ho fun k hk => by rw [hk]; exact hA, d⟩
theorem Hv.stayL (h : Hv W0 w I q Lb G pr rd) {w' : World} {B : Nat} (hs : StayL B w w') (hB : W0.heap.size ≤ B) : Hv W0 w' I q Lb G pr rd := by
  obtain ⟨c, D, Q, V, h1, h2⟩ := h
  exact ⟨c, D, Q, V, ⟨h1.bl.stayL hs hB, h1.j⟩, h2⟩
theorem BL.ownBox {c : Nat} {Q : Nat → Nat} {V : Nat → Nat → Int} {D : Int → Option Sp} (h : BL W0 w I c Q V Lb G D) {w' : World} {g : Nat} {cs : Array Value} {t : TypeId} {z : Nat × Nat} (hb : w.heap[g]? = some (.cells cs t z)) (ht : ownT t) (hn : W0.heap.size ≤ g) (hA : NoAr w g) (ho : Only w w' (fun k => k = g)) : BL W0 w' I c Q V Lb G D := by
  obtain ⟨W, Pb, h1, h2⟩ := h
  exact ⟨W, Pb, h1.ownBox hb ht hn hA ho, h2⟩
theorem Hv.ownBox (h : Hv W0 w I q Lb G pr rd) {w' : World} {g : Nat} {cs : Array Value} {t : TypeId} {z : Nat × Nat} (hb : w.heap[g]? = some (.cells cs t z)) (ht : ownT t) (hn : W0.heap.size ≤ g) (hA : NoAr w g) (ho : Only w w' (fun k => k = g)) : Hv W0 w' I q Lb G pr rd := by
  obtain ⟨c, D, Q, V, h1, h2⟩ := h
  exact ⟨c, D, Q, V, ⟨h1.bl.ownBox hb ht hn hA ho, h1.j⟩, h2⟩
end
/-- What goes on through memory that is new, boxes of one's own behind w, and ranges' records. -/
structure Carry (w : World) (S : World → Prop) : Prop where
  step : ∀ V V', S V → Below V.heap.size V V' → S V'
  own : ∀ V V' g cs t z, S V → V.heap[g]? = some (.cells cs t z) → ownT t → w.heap.size ≤ g → NoAr V g → Only V V' (fun k => k = g) → S V'
  stay : ∀ B V V', S V → StayL B V V' → w.heap.size ≤ B → S V'
theorem Carry.and {w : World} {S T : World → Prop} (h : Carry w S) (k : Carry w T) : Carry w (fun V => S V ∧ T V) :=
  ⟨fun V V' a b => ⟨h.step V V' a.1 b, k.step V V' a.2 b⟩, fun V V' g cs t z a b c d e f => ⟨h.own V V' g cs t z a.1 b c d e f, k.own V V' g cs t z a.2 b c d e f⟩, fun B V V' a b c => ⟨h.stay B V V' a.1 b c, k.stay B V V' a.2 b c⟩⟩
theorem Carry.keepB (w : World) : Carry w (fun V => KeepB w V) :=
  ⟨fun _ _ a b => a.trans (KeepB.below b), fun V V' g _ _ _ a _ _ d _ f => ⟨⟨f.os.trans a.only.os, f.tape.trans a.only.tape, f.output.trans a.only.output, Nat.le_trans a.only.size f.size, fun j hj hm => (f.block j (Nat.lt_of_lt_of_le hj a.only.size) (by omega)).trans (a.only.block j hj hm)⟩⟩, fun _ _ _ a b c => a.stay b c⟩
theorem Carry.below (w : World) : Carry w (fun V => Below w.heap.size w V) :=
  ⟨fun V V' a b => a.trans (b.mono a.size), fun V V' g _ _ _ a _ _ d _ f => f.old a a.size (fun k hk => by rw [hk]; exact d), fun B V V' a b c => a.trans (b.bel.mono c)⟩
theorem noAr_one {w : World} {g : Nat} {v : Value} {t : TypeId} {z : Nat × Nat} (h : w.heap[g]? = some (.cells #[v] t z)) : NoAr w g := fun o x y b ⟨h0, _, h2⟩ => by
  rw [cell_of_row w g _ _ _ _ h, Array.getElem?_eq_none (by simp)] at h2; cases h2

section
variable {w : World} {p : Option Addr} {i va : Int}
/-- In, where Reach refuses. -/
theorem in_no {nn : Int} {E : Int → Prop} (hE : ∀ er, E er → er ≠ 0) {S : World → Prop} (hc : Carry w S) (RC : ∀ W, Below w.heap.size w W → Calls Tryz.prog 26 #[.pointer p, .int .i64 i, .int .u32 va, .int .i64 nn, .bool false] W fun e w' => ∃ er, E er ∧ e = .returned (.int .i64 er) ∧ KeepB W w' ∧ S w') :
    Calls Tryz.prog 8 #[.pointer p, .int .i64 i, .int .u32 va, .int .i64 nn] w fun e w' => ∃ er, E er ∧ e = .returned (.tuple #[.slice none 0 0, .int .i64 er]) ∧ S w' ∧ KeepB w w' := by
  obtain ⟨w1, hw1⟩ : ∃ w1, w1 = (((w.alloc (.cells #[.pointer p] 26)).alloc (.cells #[.int .i64 i] 3)).alloc (.cells #[.slice none 0 0] 24)).alloc (.cells #[.int .i64 0] 34) := ⟨_, rfl⟩
  have b1 : Below w.heap.size w w1 := by rw [hw1]; exact (below_two w _ _).trans ((below_two _ _ _).mono (by simp; omega))
  have x2 : w1.heap[w.heap.size + 1 + 1]? = some (.cells #[.slice none 0 0] 24 (0, 0)) := by rw [hw1, show w.heap.size + 1 + 1 = ((w.alloc (.cells #[.pointer p] 26)).alloc (.cells #[.int .i64 i] 3)).heap.size by simp]; exact heap_alloc2_old _ _ _
  have x3 : w1.heap[w.heap.size + 1 + 1 + 1]? = some (.cells #[.int .i64 0] 34 (0, 0)) := by rw [hw1, show w.heap.size + 1 + 1 + 1 = ((w.alloc (.cells #[.pointer p] 26)).alloc (.cells #[.int .i64 i] 3)).heap.size + 1 by simp]; exact heap_alloc2_new _ _ _
  have R1 := Lib.hid (RC w1 b1)
  have B1 := Lib.hid b1
  have X := Lib.hid (And.intro x2 x3)
  have HC := Lib.hid (hc.and (Carry.keepB w))
  clear b1 x2 x3 RC hc
  refine (callsIn_wide (n := 14)).1 ?_
  refine callsIn_of_wp_marks Tryz.func8 rfl trivial ?_ rfl
  simp only [Tryz.ntmps8, List.size_toArray, List.length_cons, List.length_nil, Nat.reduceAdd, Nat.reduceSub, Array.replicate_succ, Array.replicate_zero, List.push_toArray, List.append_toArray, List.nil_append, List.cons_append]
  gi_wp2
  refine ⟨trivial, ?_⟩
  rw [← hw1]
  clear hw1
  refine (callsIn_wide.2 R1.out).mono ?_
  rintro e w2 ⟨er, her, rfl, hk, hs⟩
  have dne : (er != 0) = true := by simpa using hE er her
  have HE := Lib.hid her
  have x2 := hk.box X.out.1 (by decide)
  have x3 := hk.box X.out.2 (by decide)
  have c2 := cell_of_one x2
  have f2 := free_of_one x2
  have c3 : (w2.setCell ⟨w.heap.size + 1 + 1, 0, none⟩ (.slice none 0 0)).cell? ⟨w.heap.size + 1 + 1 + 1, 0, none⟩ = some (.int .i64 0) := cell_of_one ((Below.heap_setCell _ _ _ _ (by simp only; omega)).trans x3)
  have f3 : (w2.setCell ⟨w.heap.size + 1 + 1, 0, none⟩ (.slice none 0 0)).frozen? ⟨w.heap.size + 1 + 1 + 1, 0, none⟩ = false := free_of_one ((Below.heap_setCell _ _ _ _ (by simp only; omega)).trans x3)
  have S2 := Lib.hid (And.intro hs ((KeepB.below B1.out).trans hk))
  have X2 := Lib.hid (And.intro x2 x3)
  clear x2 x3 hk hs her hE
  gi_wp2
  obtain ⟨wa, hwa⟩ : ∃ wa, wa = w2.setCell ⟨w.heap.size + 1 + 1, 0, none⟩ (.slice none 0 0) := ⟨_, rfl⟩
  obtain ⟨wb, hwb⟩ : ∃ wb, wb = wa.setCell ⟨w.heap.size + 1 + 1 + 1, 0, none⟩ (.int .i64 er) := ⟨_, rfl⟩
  have Sa : S wa ∧ KeepB w wa := HC.out.own w2 wa _ _ _ _ S2.out X2.out.1 (by decide) (by omega) (noAr_one X2.out.1) (Only.grown (hwa ▸ grownBy_setCell _ _ _ _) rfl)
  have y2 : wa.heap[w.heap.size + 1 + 1]? = some (.cells #[.slice none 0 0] 24 (0, 0)) := hwa ▸ heap_setCell_same _ _ 0 _ _ _ X2.out.1
  have y3 : wa.heap[w.heap.size + 1 + 1 + 1]? = some (.cells #[.int .i64 0] 34 (0, 0)) := hwa ▸ (Below.heap_setCell _ _ _ _ (by simp only; omega)).trans X2.out.2
  have Sb : S wb ∧ KeepB w wb := HC.out.own wa wb _ _ _ _ Sa y3 (by decide) (by omega) (noAr_one y3) (Only.grown (hwb ▸ grownBy_setCell _ _ _ _) rfl)
  have q2 := cell_of_one (show wb.heap[w.heap.size + 1 + 1]? = some (.cells #[.slice none 0 0] 24 (0, 0)) from hwb ▸ (Below.heap_setCell _ _ _ _ (by simp only; omega)).trans y2)
  have q3 := cell_of_one (show wb.heap[w.heap.size + 1 + 1 + 1]? = some (.cells #[.int .i64 er] 34 (0, 0)) from hwb ▸ heap_setCell_same _ _ 0 _ _ _ y3)
  rw [← hwa, ← hwb]
  clear hwa hwb y2 y3 Sa
  refine ⟨.tuple #[.slice none 0 0, .int .i64 er], ?_, er, HE.out, rfl, Sb.1, Sb.2⟩
  simp [results, Tryz.results8, go_sem, q2, q3]
end
end Go.Proofs.YtkenipanpimolaaGreatDoor

/- The contract of package copy's In, where Reach and Load do not refuse. No condition. -/
namespace Go.Proofs.YtkenipanpimolaaGreatDoor
open Go.RowKit Go.Shelf Go.Maps
attribute [local go_sem] Oper.semAt_some
set_option maxRecDepth 100000

theorem KeepL.only {K : Nat → Prop} {w w' : World} {g : Nat} {o : Obj} (h : Only w w' (fun k => k = g)) (hg : w.heap[g]? = some o) (ho : lpO o = false) (hK : ¬ K g) : KeepL K w w' :=
  ⟨h.os, h.tape, h.output, h.size, fun k o' hk hh => h.kept hk fun e => by
    subst e
    rw [hg] at hk
    obtain rfl := Option.some.inj hk
    rcases hh with hh | hh
    · exact hK hh
    · rw [ho] at hh; cases hh⟩
/-- What In keeps while it goes over the addresses. -/
structure InRel (w : World) (S : World → Prop) (p : Option Addr) (i va : Int) (g n : Nat) (f : Nat → Int) (k : Nat) (V : World) : Prop where
  s : S V ∧ KeepB w V
  low : w.heap.size + 4 ≤ g
  x0 : V.heap[w.heap.size]? = some (.cells #[.pointer p] 26 (0, 0))
  x1 : V.heap[w.heap.size + 1]? = some (.cells #[.int .i64 i] 3 (0, 0))
  x2 : V.heap[w.heap.size + 1 + 1]? = some (.cells #[.slice none 0 0] 24 (0, 0))
  x3 : V.heap[w.heap.size + 1 + 1 + 1]? = some (.cells #[.int .i64 0] 34 (0, 0))
  row : V.heap[g]? = some (.cells (wordsV (rowW f k n)) 23 (0, 0))
  box : V.heap[g + 1]? = some (.cells #[.slice (some ⟨g, 0, none⟩) n n] 24 (0, 0))
  bv : V.heap[g + 2]? = some (boxW va)
  bn : V.heap[g + 3]? = some (boxN n)
section
variable {w : World} {S : World → Prop} {p : Option Addr} {i va : Int} {g n k : Nat} {f : Nat → Int} {V V' : World}
theorem InRel.stay (hc : Carry w S) (h : InRel w S p i va g n f k V) {B : Nat} (hs : StayL B V V') (hB : w.heap.size ≤ B) : InRel w S p i va g n f k V' :=
  ⟨⟨hc.stay B V V' h.s.1 hs hB, h.s.2.stay hs hB⟩, h.low, hs.rows _ _ h.x0 rfl, hs.rows _ _ h.x1 rfl, hs.rows _ _ h.x2 rfl, hs.rows _ _ h.x3 rfl, hs.rows _ _ h.row rfl, hs.rows _ _ h.box rfl, hs.rows _ _ h.bv rfl, hs.rows _ _ h.bn rfl⟩
theorem InRel.keep (h : InRel w S p i va g n f k V) (hs : S V') (hk : KeepB V V') : InRel w S p i va g n f k V' :=
  ⟨⟨hs, h.s.2.trans hk⟩, h.low, hk.box h.x0 (by decide), hk.box h.x1 (by decide), hk.box h.x2 (by decide), hk.box h.x3 (by decide), hk.box h.row (by decide), hk.box h.box (by decide), hk.box h.bv (by decide), hk.box h.bn (by decide)⟩
/-- A word is set in the row. -/
theorem InRel.put (hc : Carry w S) (h : InRel w S p i va g n f k V) : InRel w S p i va g n f (k + 1) (V.setCell ⟨g, k, none⟩ (.int .u32 (f k))) := by
  have ho : Only V (V.setCell ⟨g, k, none⟩ (.int .u32 (f k))) (fun j => j = g) := Only.grown (grownBy_setCell _ _ _ _) rfl
  have hw := h.low
  have S1 := (hc.and (Carry.keepB w)).own V _ g _ _ _ h.s h.row (by decide) (by omega) (noAr_page h.row) ho
  refine ⟨S1, hw, ho.kept h.x0 (by omega), ho.kept h.x1 (by omega), ho.kept h.x2 (by omega), ho.kept h.x3 (by omega), ?_, ho.kept h.box (by omega), ho.kept h.bv (by omega), ho.kept h.bn (by omega)⟩
  have := heap_setCell_same V g k _ _ (.int .u32 (f k)) h.row
  rw [wordsV_set, rowW_set] at this
  exact this
theorem InRel.keepL (h : InRel w S p i va g n f k V) (hk : KeepB V V') : KeepL (fun j => j = g + 3 ∨ j = g + 2) V V' :=
  KeepL.of_keep hk fun j o ho hj => by
    rcases hj with rfl | rfl
    · exact not_mov h.bn (by decide)
    · exact not_mov h.bv (by decide)
theorem rowW_get (f : Nat → Int) {k j n : Nat} (h : j < n) : (wordsV (rowW f k n))[j]? = some (.int .u32 (if j < k then f j else 0)) := by
  simp [wordsV, rowW, h]
theorem row_own (h : V.heap[g]? = some (.cells (wordsV (rowW f n n)) 23 (0, 0))) {base : Nat} (hb : base ≤ g) (hn : n ≤ 1000000) : V.ownsRow base 23 1 (.slice (some ⟨g, 0, none⟩) n n) n (seeV f n) := by
  refine ⟨by rw [seeV_len, Nat.mul_one], Or.inr ⟨g, n, _, rfl, hb, h, Nat.le_refl _, by unfold maxLen; omega, by simp [wordsV, rowW_len], ?_⟩⟩
  rw [rowW_all]
  simp only [wordsV, seeV, List.map_map, Nat.mul_one]
  exact List.take_of_length_le (by simp)
end
set_option maxHeartbeats 4000000 in
theorem in_ok {w : World} {p : Option Addr} {i va : Int} {n : Nat} (h0 : 0 ≤ va) (h1 : va + n ≤ 32768) (f : Nat → Int) {S : World → Prop} (hc : Carry w S)
    (RC : ∀ W, Below w.heap.size w W → Calls Tryz.prog 26 #[.pointer p, .int .i64 i, .int .u32 va, .int .i64 (n : Int), .bool false] W fun e w' => e = .returned (.int .i64 0) ∧ KeepB W w' ∧ S w')
    (LD : ∀ V k, k < n → S V → Calls Tryz.prog 28 #[.pointer p, .int .i64 i, .int .u32 (va + k)] V fun e w' => e = .returned (.tuple #[.int .u32 (f k), .int .i64 0]) ∧ KeepB V w' ∧ S w') :
    Calls Tryz.prog 8 #[.pointer p, .int .i64 i, .int .u32 va, .int .i64 (n : Int)] w fun e w' => ∃ v, e = .returned (.tuple #[v, .int .i64 0]) ∧ w'.ownsRow w.heap.size 23 1 v n (seeV f n) ∧ S w' ∧ KeepB w w' := by
  obtain ⟨w1, hw1⟩ : ∃ w1, w1 = (((w.alloc (.cells #[.pointer p] 26)).alloc (.cells #[.int .i64 i] 3)).alloc (.cells #[.slice none 0 0] 24)).alloc (.cells #[.int .i64 0] 34) := ⟨_, rfl⟩
  have b1 : Below w.heap.size w w1 := by rw [hw1]; exact (below_two w _ _).trans ((below_two _ _ _).mono (by simp; omega))
  have z1 : w1.heap.size = w.heap.size + 4 := by rw [hw1]; simp
  have x0 : w1.heap[w.heap.size]? = some (.cells #[.pointer p] 26 (0, 0)) := by rw [hw1]; exact ((below_two _ _ _).block _ (by simp <;> omega)).trans (heap_alloc2_old _ _ _)
  have x1 : w1.heap[w.heap.size + 1]? = some (.cells #[.int .i64 i] 3 (0, 0)) := by rw [hw1]; exact ((below_two _ _ _).block _ (by simp <;> omega)).trans (heap_alloc2_new _ _ _)
  have x2 : w1.heap[w.heap.size + 1 + 1]? = some (.cells #[.slice none 0 0] 24 (0, 0)) := by rw [hw1, show w.heap.size + 1 + 1 = ((w.alloc (.cells #[.pointer p] 26)).alloc (.cells #[.int .i64 i] 3)).heap.size by simp]; exact heap_alloc2_old _ _ _
  have x3 : w1.heap[w.heap.size + 1 + 1 + 1]? = some (.cells #[.int .i64 0] 34 (0, 0)) := by rw [hw1, show w.heap.size + 1 + 1 + 1 = ((w.alloc (.cells #[.pointer p] 26)).alloc (.cells #[.int .i64 i] 3)).heap.size + 1 by simp]; exact heap_alloc2_new _ _ _
  have R1 := Lib.hid (RC w1 b1)
  have B1 := Lib.hid b1
  have X := Lib.hid (And.intro x0 (And.intro x1 (And.intro x2 x3)))
  have HC := Lib.hid hc
  have HL := Lib.hid LD
  have hmk := make_wordsM n (by omega)
  clear b1 x0 x1 x2 x3 RC hc LD
  refine (callsIn_wide (n := 14)).1 ?_
  refine callsIn_of_wp_marks Tryz.func8 rfl trivial ?_ rfl
  simp only [Tryz.ntmps8, List.size_toArray, List.length_cons, List.length_nil, Nat.reduceAdd, Nat.reduceSub, Array.replicate_succ, Array.replicate_zero, List.push_toArray, List.append_toArray, List.nil_append, List.cons_append]
  gi_wp2
  refine ⟨trivial, ?_⟩
  rw [← hw1]
  clear hw1
  refine (callsIn_wide.2 R1.out).mono ?_
  rintro e w2 ⟨rfl, hk, hs⟩
  have x0 := hk.box X.out.1 (by decide)
  have x1 := hk.box X.out.2.1 (by decide)
  have x2 := hk.box X.out.2.2.1 (by decide)
  have x3 := hk.box X.out.2.2.2 (by decide)
  have z2 := hk.size
  have S2 := Lib.hid (And.intro hs ((KeepB.below B1.out).trans hk))
  have X2 := Lib.hid (And.intro x0 (And.intro x1 (And.intro x2 x3)))
  clear x0 x1 x2 x3 hk hs X R1
  obtain ⟨w3, hw3⟩ : ∃ w3, w3 = (w2.alloc (.cells (wordsV (List.replicate n 0)) 23)).alloc (.cells #[.slice (some ⟨w2.heap.size, 0, none⟩) n n] 24) := ⟨_, rfl⟩
  obtain ⟨w4, hw4⟩ : ∃ w4, w4 = (w3.alloc (.cells #[.int .u32 va] 23)).alloc (.cells #[.int .i64 (n : Int)] 3) := ⟨_, rfl⟩
  obtain ⟨g, hg⟩ : ∃ g, g = w2.heap.size := ⟨_, rfl⟩
  have z3 : w3.heap.size = g + 2 := by rw [hw3, hg]; simp
  have z4 : w4.heap.size = g + 4 := by rw [hw4]; simp; omega
  have b3 : Below w2.heap.size w2 w3 := by rw [hw3]; exact below_two _ _ _
  have b4 : Below w3.heap.size w3 w4 := by rw [hw4]; exact below_two _ _ _
  have hgw : w.heap.size + 4 ≤ g := by omega
  have I4 : Hid (InRel w S p i va g n f 0 w4) := Lib.hid (by
    have r3 : w3.heap[g]? = some (.cells (wordsV (List.replicate n 0)) 23 (0, 0)) := by rw [hw3, hg]; exact heap_alloc2_old _ _ _
    have s3 : w3.heap[g + 1]? = some (.cells #[.slice (some ⟨g, 0, none⟩) n n] 24 (0, 0)) := by rw [hw3, hg]; exact heap_alloc2_new _ _ _
    have bb := b3.trans (b4.mono b3.size)
    have st : ∀ (k : Nat) (o : Obj), w2.heap[k]? = some o → w4.heap[k]? = some o := fun k o h => (bb.block k (lt_of_block h)).trans h
    refine ⟨⟨HC.out.step _ _ S2.out.1 bb, S2.out.2.trans (KeepB.below bb)⟩, hgw, st _ _ X2.out.1, st _ _ X2.out.2.1, st _ _ X2.out.2.2.1, st _ _ X2.out.2.2.2, ?_, (b4.block _ (by omega)).trans s3, ?_, ?_⟩
    · rw [rowW_zero]; exact (b4.block _ (by omega)).trans r3
    · rw [hw4, ← z3]; exact heap_alloc2_old _ _ _
    · rw [hw4, show g + 3 = w3.heap.size + 1 by omega]; exact heap_alloc2_new _ _ _)
  have zw : w.heap.size ≤ w2.heap.size := by omega
  rw [← hg] at hw3
  clear b3 b4 S2 X2 B1
  gi_wp2
  refine ⟨trivial, ?_⟩
  rw [← hg, ← hw3]
  refine (callsIn_wide.2 (mkAddr va n w3)).mono ?_
  rintro e w' ⟨rfl, rfl⟩
  rw [← hw4, z3]
  clear hw3 hw4
  gi_wp2
  rw [← hg]
  clear hg zw z2 z1
  refine range_l (N := n) (encs := encA va) (K := fun j => j = g + 2 + 1 ∨ j = g + 2) (w0 := w4) (gf := 63) (lb := #[.pointer (some ⟨g + 2 + 1, 0, none⟩), .pointer (some ⟨g + 2, 0, none⟩)]) rfl (enters Tryz.func63 rfl rfl) (addr_seq (g + 2 + 1) (g + 2) n va (by omega) (by omega) w4 I4.out.bn I4.out.bv)
    (fun k hk => ⟨by omega, rfl⟩) (Nat.le_refl _) (by intro _; rfl)
    (fun k V => InRel w S p i va g n f k V) (fun k V V' h hs => h.stay HC.out hs (by omega)) I4.out
    (fun x a' _ => a' = { tmps := #[.pointer p, .int .i64 i, .int .u32 va, .int .i64 (n : Int), .pointer (some ⟨w.heap.size, 0, none⟩), .pointer (some ⟨w.heap.size + 1, 0, none⟩), undef, undef, .pointer (some ⟨w.heap.size + 1 + 1, 0, none⟩), .pointer (some ⟨w.heap.size + 1 + 1 + 1, 0, none⟩), .int .i64 0, .pointer (some ⟨g + 1, 0, none⟩), .int .i64 (x : Int), .int .u32 (va + x), undef, undef, .pointer p, .int .i64 i, .int .u32 va, .int .i64 (n : Int), .int .i64 0, .int .i64 0, .bool false, undef, .int .i64 (n : Int), .slice (some ⟨g, 0, none⟩) n n, .int .u32 va, .int .i64 (n : Int), .func (.func 63) #[] #[.pointer (some ⟨g + 2 + 1, 0, none⟩), .pointer (some ⟨g + 2, 0, none⟩)], .int .i64 (x : Int), .int .u32 (va + x), undef, undef, undef, undef, undef, undef, undef, undef, undef, undef, undef, undef, undef, undef, undef], defers := [] })
    (fun _ _ _ _ _ _ hs _ _ => hs)
    ?assign ?body ?done
  case assign =>
    rintro l' x V C hI hzv hC
    dsimp only [encA]
    gi_wp2
    exact hC _ _ (KeepL.refl _ _) hI rfl
  case body =>
    rintro l' x a' V hx hI hzv rfl
    have IV := Lib.hid hI
    have L1 := Lib.hid (HL.out V x hx hI.s.1)
    have c0 := cell_of_one hI.x0
    have c1 := cell_of_one hI.x1
    clear hI hmk
    gi_wp2
    refine ⟨trivial, ?_⟩
    refine (callsIn_wide.2 L1.out).mono ?_
    rintro e V2 ⟨rfl, hk, hs⟩
    have I2 := Lib.hid (IV.out.keep hs hk)
    have K2 := Lib.hid (IV.out.keepL hk)
    have c3 := cell_of_one I2.out.box
    have c4 : V2.cell? ⟨g, x, none⟩ = some (.int .u32 (if x < x then f x else 0)) := by rw [cell_of_row _ _ _ _ _ _ I2.out.row]; exact rowW_get f hx
    have f4 := frozen_of_row V2 g x _ _ I2.out.row
    have hx1 : (x : Int) < (n : Int) := by omega
    clear hk hs c0 c1 L1
    gi_wp2
    exact ⟨K2.out.trans (KeepL.only (Only.grown (grownBy_setCell _ _ _ _) rfl) I2.out.row rfl (by omega)), I2.out.put HC.out⟩
  case done =>
    rintro D V hD hI hKD
    have IV := Lib.hid hI
    have HK := Lib.hid hKD
    have hlow := hI.low
    have c0 := cell_of_one hI.box
    have c2 := cell_of_one hI.x2
    have f2 := free_of_one hI.x2
    obtain ⟨Va, hVa⟩ : ∃ Va, Va = V.setCell ⟨w.heap.size + 1 + 1, 0, none⟩ (.slice (some ⟨g, 0, none⟩) n n) := ⟨_, rfl⟩
    obtain ⟨Vb, hVb⟩ : ∃ Vb, Vb = Va.setCell ⟨w.heap.size + 1 + 1 + 1, 0, none⟩ (.int .i64 0) := ⟨_, rfl⟩
    have oa : Only V Va (fun j => j = w.heap.size + 1 + 1) := Only.grown (hVa ▸ grownBy_setCell _ _ _ _) rfl
    have ob : Only Va Vb (fun j => j = w.heap.size + 1 + 1 + 1) := Only.grown (hVb ▸ grownBy_setCell _ _ _ _) rfl
    have Sa : S Va ∧ KeepB w Va := (HC.out.and (Carry.keepB w)).own V Va _ _ _ _ hI.s hI.x2 (by decide) (by omega) (noAr_one hI.x2) oa
    have y2 : Va.heap[w.heap.size + 1 + 1]? = some (.cells #[.slice (some ⟨g, 0, none⟩) n n] 24 (0, 0)) := hVa ▸ heap_setCell_same _ _ 0 _ _ _ hI.x2
    have y3 : Va.heap[w.heap.size + 1 + 1 + 1]? = some (.cells #[.int .i64 0] 34 (0, 0)) := oa.kept hI.x3 (by omega)
    have c3 := cell_of_one y3
    have f3 := free_of_one y3
    have Sb : S Vb ∧ KeepB w Vb := (HC.out.and (Carry.keepB w)).own Va Vb _ _ _ _ Sa y3 (by decide) (by omega) (noAr_one y3) ob
    have t2 := ob.kept y2 (by omega)
    have t3 : Vb.heap[w.heap.size + 1 + 1 + 1]? = some (.cells #[.int .i64 0] 34 (0, 0)) := hVb ▸ heap_setCell_same _ _ 0 _ _ _ y3
    have tr := ob.kept (oa.kept hI.row (by omega)) (by omega)
    have tD := ob.kept (oa.kept hKD (by omega)) (by omega)
    have PB := Lib.hid (And.intro Sb (And.intro t2 (And.intro t3 (And.intro tr tD))))
    rw [hVa] at c3 f3
    clear hI hKD oa ob Sa Sb y2 y3 t2 t3 tr tD
    gi_wp2
    rw [← hVa, ← hVb]
    clear c0 c2 f2 c3 f3 hVa hVb
    refine ⟨by simp, .inl ⟨_, _, rfl, run_takeDeferred PB.out.2.2.2.2, ?_⟩⟩
    obtain ⟨⟨s1, k1⟩, t2, t3, tr, tD⟩ := PB.out
    have hst : StayL w.heap.size Vb (Vb.putObj D (.deferred none)) := StayL.put _ tD rfl (by omega)
    have q2 := cell_of_one (hst.rows _ _ t2 rfl)
    have q3 := cell_of_one (hst.rows _ _ t3 rfl)
    refine ⟨.tuple #[.slice (some ⟨g, 0, none⟩) n n, .int .i64 0], ?_, _, rfl, row_own (hst.rows _ _ tr rfl) (by omega) (by omega), HC.out.stay _ _ _ s1 hst (Nat.le_refl _), k1.stay hst (Nat.le_refl _)⟩
    simp [results, Tryz.results8, go_sem, q2, q3]
end Go.Proofs.YtkenipanpimolaaGreatDoor

/- The contract of package copy's put, over what Reach, Store and the teller do. No condition. -/
namespace Go.Proofs.YtkenipanpimolaaGreatDoor
open Go.RowKit Go.Shelf Go.Maps
attribute [local go_sem] Oper.semAt_some
set_option maxRecDepth 100000

/-- The boxes of put. -/
def putZ (w : World) (p : Option Addr) (i : Int) (tg : Nat) (caps : Array Value) : World := (((w.alloc (.cells #[.pointer p] 26)).alloc (.cells #[.int .i64 i] 3)).alloc (.cells #[.func (.func tg) #[] caps] 69)).alloc (.cells #[.int .i64 0] 34)
section
variable {w : World} {p : Option Addr} {i : Int} {tg : Nat} {caps : Array Value}
theorem putZ_below : Below w.heap.size w (putZ w p i tg caps) := (below_two w _ _).trans ((below_two _ _ _).mono (by simp; omega))
theorem putZ_size : (putZ w p i tg caps).heap.size = w.heap.size + 4 := by simp [putZ]
theorem putZ_0 : (putZ w p i tg caps).heap[w.heap.size]? = some (.cells #[.pointer p] 26 (0, 0)) := ((below_two _ _ _).block _ (by simp <;> omega)).trans (heap_alloc2_old _ _ _)
theorem putZ_1 : (putZ w p i tg caps).heap[w.heap.size + 1]? = some (.cells #[.int .i64 i] 3 (0, 0)) := ((below_two _ _ _).block _ (by simp <;> omega)).trans (heap_alloc2_new _ _ _)
theorem putZ_2 : (putZ w p i tg caps).heap[w.heap.size + 1 + 1]? = some (.cells #[.func (.func tg) #[] caps] 69 (0, 0)) := by
  rw [show w.heap.size + 1 + 1 = ((w.alloc (.cells #[.pointer p] 26)).alloc (.cells #[.int .i64 i] 3)).heap.size by simp]; exact heap_alloc2_old _ _ _
theorem putZ_3 : (putZ w p i tg caps).heap[w.heap.size + 1 + 1 + 1]? = some (.cells #[.int .i64 0] 34 (0, 0)) := by
  rw [show w.heap.size + 1 + 1 + 1 = ((w.alloc (.cells #[.pointer p] 26)).alloc (.cells #[.int .i64 i] 3)).heap.size + 1 by simp]; exact heap_alloc2_new _ _ _
end
/-- Put, where Reach refuses. -/
theorem put_noZ {w : World} {p : Option Addr} {i va nn : Int} {E : Int → Prop} (hE : ∀ er, E er → er ≠ 0) (tg : Nat) (caps : Array Value) {S : World → Prop} (hc : Carry w S) (RC : ∀ W, Below w.heap.size w W → Calls Tryz.prog 26 #[.pointer p, .int .i64 i, .int .u32 va, .int .i64 nn, .bool true] W fun e w' => ∃ er, E er ∧ e = .returned (.int .i64 er) ∧ KeepB W w' ∧ S w') :
    Calls Tryz.prog 24 #[.pointer p, .int .i64 i, .int .u32 va, .int .i64 nn, .func (.func tg) #[] caps] w fun e w' => ∃ er, E er ∧ e = .returned (.int .i64 er) ∧ S w' ∧ KeepB w w' := by
  have R1 := Lib.hid (RC (putZ w p i tg caps) putZ_below)
  have HC := Lib.hid (hc.and (Carry.keepB w))
  clear RC hc
  refine (callsIn_wide (n := 14)).1 ?_
  refine callsIn_of_wp_marks Tryz.func24 rfl trivial ?_ rfl
  simp only [Tryz.ntmps24, List.size_toArray, List.length_cons, List.length_nil, Nat.reduceAdd, Nat.reduceSub, Array.replicate_succ, Array.replicate_zero, List.push_toArray, List.append_toArray, List.nil_append, List.cons_append]
  gi_wp2
  refine ⟨trivial, ?_⟩
  refine (callsIn_wide.2 (show Calls Tryz.prog _ _ (putZ w p i tg caps) _ from R1.out)).mono ?_
  rintro e w2 ⟨er, her, rfl, hk, hs⟩
  have dne : (er != 0) = true := by simpa using hE er her
  have HE := Lib.hid her
  have x3 := hk.box putZ_3 (by decide)
  have c3 := cell_of_one x3
  have f3 := free_of_one x3
  obtain ⟨wb, hwb⟩ : ∃ wb, wb = w2.setCell ⟨w.heap.size + 1 + 1 + 1, 0, none⟩ (.int .i64 er) := ⟨_, rfl⟩
  have Sb := HC.out.own w2 wb _ _ _ _ ⟨hs, (KeepB.below putZ_below).trans hk⟩ x3 (by decide) (by omega) (noAr_one x3) (Only.grown (hwb ▸ grownBy_setCell _ _ _ _) rfl)
  have q3 := Lib.hid (cell_of_one (show wb.heap[w.heap.size + 1 + 1 + 1]? = some (.cells #[.int .i64 er] 34 (0, 0)) from hwb ▸ heap_setCell_same _ _ 0 _ _ _ x3))
  have SB := Lib.hid Sb
  clear hk hs x3 Sb R1 her hE
  gi_wp2
  rw [← hwb]
  clear hwb c3 f3
  have q3 := q3.out
  refine ⟨.int .i64 er, ?_, er, HE.out, rfl, SB.out.1, SB.out.2⟩
  simp [results, Tryz.results24, go_sem, q3]
/-- What put keeps while it goes over the addresses. -/
structure PutRel (w : World) (S : Nat → World → Prop) (p : Option Addr) (i va : Int) (g n : Nat) (tg : Nat) (caps : Array Value) (k : Nat) (V : World) : Prop where
  s : S k V
  kb : KeepB w V
  low : w.heap.size + 4 ≤ g
  x0 : V.heap[w.heap.size]? = some (.cells #[.pointer p] 26 (0, 0))
  x1 : V.heap[w.heap.size + 1]? = some (.cells #[.int .i64 i] 3 (0, 0))
  x2 : V.heap[w.heap.size + 1 + 1]? = some (.cells #[.func (.func tg) #[] caps] 69 (0, 0))
  x3 : V.heap[w.heap.size + 1 + 1 + 1]? = some (.cells #[.int .i64 0] 34 (0, 0))
  bv : V.heap[g]? = some (boxW va)
  bn : V.heap[g + 1]? = some (boxN n)
section
variable {w : World} {S : Nat → World → Prop} {p : Option Addr} {i va : Int} {g n k : Nat} {tg : Nat} {caps : Array Value} {V V' : World}
theorem PutRel.stay (hc : ∀ k, Carry w (S k)) (h : PutRel w S p i va g n tg caps k V) {B : Nat} (hs : StayL B V V') (hB : w.heap.size ≤ B) : PutRel w S p i va g n tg caps k V' :=
  ⟨(hc k).stay B V V' h.s hs hB, h.kb.stay hs hB, h.low, hs.rows _ _ h.x0 rfl, hs.rows _ _ h.x1 rfl, hs.rows _ _ h.x2 rfl, hs.rows _ _ h.x3 rfl, hs.rows _ _ h.bv rfl, hs.rows _ _ h.bn rfl⟩
theorem PutRel.keep {k' : Nat} (h : PutRel w S p i va g n tg caps k V) (hs : S k' V') (hk : KeepB V V') : PutRel w S p i va g n tg caps k' V' :=
  ⟨hs, h.kb.trans hk, h.low, hk.box h.x0 (by decide), hk.box h.x1 (by decide), hk.box h.x2 (by decide), hk.box h.x3 (by decide), hk.box h.bv (by decide), hk.box h.bn (by decide)⟩
theorem PutRel.keepL (h : PutRel w S p i va g n tg caps k V) (hk : KeepB V V') : KeepL (fun j => j = g + 1 ∨ j = g) V V' :=
  KeepL.of_keep hk fun j o ho hj => by
    rcases hj with rfl | rfl
    · exact not_mov h.bn (by decide)
    · exact not_mov h.bv (by decide)
end
set_option maxHeartbeats 4000000 in
theorem put_okZ {w : World} {p : Option Addr} {i va : Int} {n : Nat} (h0 : 0 ≤ va) (h1 : va + n ≤ 32768) (f : Nat → Int) (tg : Nat) (caps : Array Value) (hent : ∀ (args : Array Value) (W : World), (callFunc tg args).run Tryz.prog W = .ok (.enter tg args) W) {S : Nat → World → Prop} (hc : ∀ k, Carry w (S k))
    (RC : ∀ W, Below w.heap.size w W → Calls Tryz.prog 26 #[.pointer p, .int .i64 i, .int .u32 va, .int .i64 (n : Int), .bool true] W fun e w' => e = .returned (.int .i64 0) ∧ KeepB W w' ∧ S 0 w')
    (TL : ∀ V k, k < n → S k V → KeepB w V → Calls Tryz.prog tg (#[.int .i64 (k : Int)] ++ caps) V fun e w' => e = .returned (.int .u32 (f k)) ∧ w' = V)
    (ST : ∀ V k, k < n → S k V → Calls Tryz.prog 60 #[.pointer p, .int .i64 i, .int .u32 (va + k), .int .u32 (f k)] V fun e w' => e = .returned (.int .i64 0) ∧ KeepB V w' ∧ S (k + 1) w') :
    Calls Tryz.prog 24 #[.pointer p, .int .i64 i, .int .u32 va, .int .i64 (n : Int), .func (.func tg) #[] caps] w fun e w' => e = .returned (.int .i64 0) ∧ S n w' ∧ KeepB w w' := by
  have R1 := Lib.hid (RC (putZ w p i tg caps) putZ_below)
  have HC := Lib.hid hc
  have HT := Lib.hid TL
  have HS := Lib.hid ST
  have hmx : Tryz.prog.follows .mixedOrders = true := by kernel_rfl
  clear RC hc TL ST
  refine (callsIn_wide (n := 14)).1 ?_
  refine callsIn_of_wp_marks Tryz.func24 rfl trivial ?_ rfl
  simp only [Tryz.ntmps24, List.size_toArray, List.length_cons, List.length_nil, Nat.reduceAdd, Nat.reduceSub, Array.replicate_succ, Array.replicate_zero, List.push_toArray, List.append_toArray, List.nil_append, List.cons_append]
  gi_wp2
  refine ⟨trivial, ?_⟩
  refine (callsIn_wide.2 (show Calls Tryz.prog _ _ (putZ w p i tg caps) _ from R1.out)).mono ?_
  rintro e w2 ⟨rfl, hk, hs⟩
  obtain ⟨w4, hw4⟩ : ∃ w4, w4 = (w2.alloc (.cells #[.int .u32 va] 23)).alloc (.cells #[.int .i64 (n : Int)] 3) := ⟨_, rfl⟩
  obtain ⟨g, hg⟩ : ∃ g, g = w2.heap.size := ⟨_, rfl⟩
  have z4 : w4.heap.size = g + 2 := by rw [hw4]; simp; omega
  have hgw : w.heap.size + 4 ≤ g := by have := hk.size; rw [putZ_size] at this; omega
  have I4 : Hid (PutRel w S p i va g n tg caps 0 w4) := Lib.hid (by
    have bb : Below w2.heap.size w2 w4 := by rw [hw4]; exact below_two _ _ _
    have st : ∀ (k : Nat) (o : Obj), w2.heap[k]? = some o → w4.heap[k]? = some o := fun k o h => (bb.block k (lt_of_block h)).trans h
    refine ⟨(HC.out 0).step _ _ hs bb, ((KeepB.below putZ_below).trans hk).trans (KeepB.below bb), hgw, st _ _ (hk.box putZ_0 (by decide)), st _ _ (hk.box putZ_1 (by decide)), st _ _ (hk.box putZ_2 (by decide)), st _ _ (hk.box putZ_3 (by decide)), ?_, ?_⟩
    · rw [hw4, hg]; exact heap_alloc2_old _ _ _
    · rw [hw4, hg]; exact heap_alloc2_new _ _ _)
  clear hk hs R1
  gi_wp2
  refine ⟨trivial, ?_⟩
  refine (callsIn_wide.2 (mkAddr va n w2)).mono ?_
  rintro e w' ⟨rfl, rfl⟩
  rw [← hw4, ← hg]
  clear hw4 hg
  gi_wp2
  refine range_l (N := n) (encs := encA va) (K := fun j => j = g + 1 ∨ j = g) (w0 := w4) (gf := 63) (lb := #[.pointer (some ⟨g + 1, 0, none⟩), .pointer (some ⟨g, 0, none⟩)]) rfl (enters Tryz.func63 rfl rfl) (addr_seq (g + 1) g n va (by omega) (by omega) w4 I4.out.bn I4.out.bv)
    (fun k hk => ⟨by omega, rfl⟩) (Nat.le_refl _) (by intro _; rfl)
    (fun k V => PutRel w S p i va g n tg caps k V) (fun k V V' h hs => h.stay HC.out hs (by omega)) I4.out
    (fun x a' _ => a' = { tmps := #[.pointer p, .int .i64 i, .int .u32 va, .int .i64 (n : Int), .func (.func tg) #[] caps, .pointer (some ⟨w.heap.size, 0, none⟩), .pointer (some ⟨w.heap.size + 1, 0, none⟩), undef, undef, .pointer (some ⟨w.heap.size + 1 + 1, 0, none⟩), .pointer (some ⟨w.heap.size + 1 + 1 + 1, 0, none⟩), .int .i64 0, .int .i64 (x : Int), .int .u32 (va + x), undef, .pointer p, .int .i64 i, .int .u32 va, .int .i64 (n : Int), .int .i64 0, .int .i64 0, .bool false, undef, .int .u32 va, .int .i64 (n : Int), .func (.func 63) #[] #[.pointer (some ⟨g + 1, 0, none⟩), .pointer (some ⟨g, 0, none⟩)], .int .i64 (x : Int), .int .u32 (va + x), undef, undef, undef, undef, undef, undef, undef, undef, undef, undef], defers := [] })
    (fun _ _ _ _ _ _ hs _ _ => hs)
    ?assign ?body ?done
  case assign =>
    rintro l' x V C hI hzv hC
    dsimp only [encA]
    gi_wp2
    exact hC _ _ (KeepL.refl _ _) hI rfl
  case body =>
    rintro l' x a' V hx hI hzv rfl
    have IV := Lib.hid hI
    have ID := Lib.hid ((HC.out x).step V V.drew hI.s (Below.refl _ _).drew)
    have KD : Hid (KeepB w V.drew) := Lib.hid (hI.kb.trans (KeepB.below (Below.refl _ _).drew))
    have T1 := Lib.hid (HT.out V.drew x hx ID.out KD.out)
    have L1 := Lib.hid (HS.out V.drew x hx ID.out)
    have c0 := cell_of_one hI.x0
    have c1 := cell_of_one hI.x1
    have c2 := cell_of_one hI.x2
    clear hI
    gi_wp2
    refine round_reads 6 hmx (by kernel_rfl) (by rfl) ?_
    simp only [List.take_succ_cons, List.take_zero, List.drop_succ_cons, List.drop_zero]
    still_step
    still_step
    still_step
    still_step
    still_step
    still_call T1.out
    refine wpStill_nil ?_
    gi_wp2
    refine ⟨trivial, ?_⟩
    refine (callsIn_wide.2 L1.out).mono ?_
    rintro e V2 ⟨rfl, hk, hs⟩
    have hk' : KeepB V V2 := (KeepB.below (Below.refl _ _).drew).trans hk
    have I2 := Lib.hid (IV.out.keep hs hk')
    have K2 := Lib.hid (IV.out.keepL hk')
    clear hk hs hk' c0 c1 c2 T1 L1
    gi_wp2
    exact ⟨K2.out, I2.out⟩
  case done =>
    rintro D V hD hI hKD
    have hlow := hI.low
    have c3 := cell_of_one hI.x3
    have f3 := free_of_one hI.x3
    obtain ⟨Vb, hVb⟩ : ∃ Vb, Vb = V.setCell ⟨w.heap.size + 1 + 1 + 1, 0, none⟩ (.int .i64 0) := ⟨_, rfl⟩
    have ob : Only V Vb (fun j => j = w.heap.size + 1 + 1 + 1) := Only.grown (hVb ▸ grownBy_setCell _ _ _ _) rfl
    have Sb := ((HC.out n).and (Carry.keepB w)).own V Vb _ _ _ _ ⟨hI.s, hI.kb⟩ hI.x3 (by decide) (by omega) (noAr_one hI.x3) ob
    have t3 : Vb.heap[w.heap.size + 1 + 1 + 1]? = some (.cells #[.int .i64 0] 34 (0, 0)) := hVb ▸ heap_setCell_same _ _ 0 _ _ _ hI.x3
    have tD := ob.kept hKD (by omega)
    have PB := Lib.hid (And.intro Sb (And.intro t3 tD))
    clear hI hKD ob Sb t3 tD
    gi_wp2
    rw [← hVb]
    clear c3 f3 hVb
    refine ⟨by simp, .inl ⟨_, _, rfl, run_takeDeferred PB.out.2.2, ?_⟩⟩
    obtain ⟨⟨s1, k1⟩, t3, tD⟩ := PB.out
    have hst : StayL w.heap.size Vb (Vb.putObj D (.deferred none)) := StayL.put _ tD rfl (by omega)
    have q3 := cell_of_one (hst.rows _ _ t3 rfl)
    refine ⟨.int .i64 0, ?_, rfl, (HC.out n).stay _ _ _ s1 hst (Nat.le_refl _), k1.stay hst (Nat.le_refl _)⟩
    simp [results, Tryz.results24, go_sem, q3]
/-- The tellers. -/
theorem tellOut {V : World} {bx b o n c k : Nat} {x : Int} (hk : k < n) (h1 : V.cell? ⟨bx, 0, none⟩ = some (.slice (some ⟨b, o, none⟩) n c)) (h2 : V.cell? ⟨b, o + k, none⟩ = some (.int .u32 x)) :
    Calls Tryz.prog 29 (#[.int .i64 (k : Int)] ++ #[.pointer (some ⟨bx, 0, none⟩)]) V fun e w' => e = .returned (.int .u32 x) ∧ w' = V := by
  have hk1 : (k : Int) < (n : Int) := by omega
  go_enter Tryz.func29, Tryz.ntmps29
  go_wp2
  go_ret
  exact ⟨rfl, rfl⟩
theorem tellFill {V : World} {bx : Nat} {x k : Int} (h1 : V.cell? ⟨bx, 0, none⟩ = some (.int .u32 x)) :
    Calls Tryz.prog 25 (#[.int .i64 k] ++ #[.pointer (some ⟨bx, 0, none⟩)]) V fun e w' => e = .returned (.int .u32 x) ∧ w' = V := by
  go_enter Tryz.func25, Tryz.ntmps25
  go_wp2
  go_ret
  exact ⟨rfl, rfl⟩
theorem enters_Out1 (args : Array Value) (W : World) : (callFunc 29 args).run Tryz.prog W = .ok (.enter 29 args) W := enters Tryz.func29 rfl rfl args W
theorem enters_Fill1 (args : Array Value) (W : World) : (callFunc 25 args).run Tryz.prog W = .ok (.enter 25 args) W := enters Tryz.func25 rfl rfl args W
section
variable {w : World} {p : Option Addr} {i va : Int}
/-- Out, whatever put does. -/
theorem outZ {a : Option Addr} {n c : Nat} {E : Int → World → Prop} (h : Calls Tryz.prog 24 #[.pointer p, .int .i64 i, .int .u32 va, .int .i64 (n : Int), .func (.func 29) #[] #[.pointer (some ⟨w.heap.size, 0, none⟩)]] (w.alloc (.cells #[.slice a n c] 24)) fun e w' => ∃ er, e = .returned (.int .i64 er) ∧ E er w') :
    Calls Tryz.prog 9 #[.pointer p, .int .i64 i, .int .u32 va, .slice a n c] w fun e w' => ∃ er, e = .returned (.int .i64 er) ∧ E er w' := by
  have H := Lib.hid h
  have hmf : ∀ (fn : Fn) (first cap : Array Value) (w : World), (Instr.makeFunc fn first cap).run Tryz.prog w = .ok (.func fn first cap) w := fun _ _ _ _ => rfl
  clear h
  go_enter Tryz.func9, Tryz.ntmps9
  go_wp2_with fail
  refine H.out.mono ?_
  rintro e w' ⟨er, rfl, hR⟩
  have HR := Lib.hid hR
  clear hR
  go_wp2_with fail
  go_ret
  exact ⟨er, rfl, HR.out⟩
theorem fillZ {nn x : Int} {E : Int → World → Prop} (h : Calls Tryz.prog 24 #[.pointer p, .int .i64 i, .int .u32 va, .int .i64 nn, .func (.func 25) #[] #[.pointer (some ⟨w.heap.size, 0, none⟩)]] (w.alloc (.cells #[.int .u32 x] 23)) fun e w' => ∃ er, e = .returned (.int .i64 er) ∧ E er w') :
    Calls Tryz.prog 7 #[.pointer p, .int .i64 i, .int .u32 va, .int .i64 nn, .int .u32 x] w fun e w' => ∃ er, e = .returned (.int .i64 er) ∧ E er w' := by
  have H := Lib.hid h
  have hmf : ∀ (fn : Fn) (first cap : Array Value) (w : World), (Instr.makeFunc fn first cap).run Tryz.prog w = .ok (.func fn first cap) w := fun _ _ _ _ => rfl
  clear h
  go_enter Tryz.func7, Tryz.ntmps7
  go_wp2_with fail
  refine H.out.mono ?_
  rintro e w' ⟨er, rfl, hR⟩
  have HR := Lib.hid hR
  clear hR
  go_wp2_with fail
  go_ret
  exact ⟨er, rfl, HR.out⟩
end
end Go.Proofs.YtkenipanpimolaaGreatDoor
