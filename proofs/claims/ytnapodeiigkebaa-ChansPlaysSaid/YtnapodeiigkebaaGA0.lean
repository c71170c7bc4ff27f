/- Texts of mine, joined: A0 R5. What each says and under which conditions stands at its head, below. -/
import Derived.Test.YtnapodeiigkebaaGC
import Derived.Maps.OwnSet
import Derived.Laws.AppendOwnNone
/- What serves every package with a map from numbers: keys; a map's datum whose keys are frames; kinds of blocks; what calls change, as a set of blocks. Nothing of a program's functions. (Split off XA2 in round 11: plain moves.) -/
namespace Go.Proofs.Ytnapodeiigkebaa
open Go.RowKit Go.Maps
set_option maxRecDepth 100000

/-- A map's datum whose keys are frames, each once. -/
def Frames (D : DataW Unit) : Prop := ∃ es, D = .map es ∧ es.Pairwise (fun p q => p.1 ≠ q.1) ∧ ∀ p ∈ es, ∃ x : Nat, x < 1024 ∧ p.1 = .int .i64 (x : Int)
/-- What kind of thing lies in a block. -/
def kindOf : Obj → Option TypeId
  | .cells _ t _ => some t
  | _ => none
theorem kind_ne {w : World} {k r : Nat} {o o' : Obj} (h : w.heap[k]? = some o) (h' : w.heap[r]? = some o') (hne : kindOf o ≠ kindOf o') : k ≠ r := by
  intro e
  subst e
  rw [h] at h'
  exact hne (by rw [Option.some.inj h'])
/-- Of what was there just these blocks may have changed. -/
structure Only (w w' : World) (B : Nat → Prop) : Prop where
  os : w'.os = w.os
  tape : w'.tape = w.tape
  output : w'.output = w.output
  size : w.heap.size ≤ w'.heap.size
  block : ∀ k, k < w.heap.size → ¬ B k → w'.heap[k]? = w.heap[k]?
theorem Only.refl (w : World) (B : Nat → Prop) : Only w w B := ⟨rfl, rfl, rfl, Nat.le_refl _, fun _ _ _ => rfl⟩
theorem Only.trans {a b c : World} {B : Nat → Prop} (h : Only a b B) (k : Only b c B) : Only a c B :=
  ⟨k.os.trans h.os, k.tape.trans h.tape, k.output.trans h.output, Nat.le_trans h.size k.size, fun i hi hB => (k.block i (Nat.lt_of_lt_of_le hi h.size) hB).trans (h.block i hi hB)⟩
theorem Only.grown {w w' : World} {B : Nat → Prop} {r : Nat} (h : w.grownBy w' (some r)) (hr : B r) : Only w w' B :=
  ⟨h.os, h.tape, h.output, h.size, fun k hk hB => h.block k hk (fun e => hB (by rw [Option.some.inj e]; exact hr))⟩
theorem Only.below {w w' : World} {B : Nat → Prop} (h : Below w.heap.size w w') : Only w w' B := ⟨h.os, h.tape, h.output, h.size, fun k hk _ => h.block k hk⟩
theorem Only.mono {w w' : World} {B C : Nat → Prop} (h : Only w w' B) (hc : ∀ k, B k → C k) : Only w w' C := ⟨h.os, h.tape, h.output, h.size, fun k hk hC => h.block k hk (fun e => hC (hc k e))⟩
/-- Old memory stays, where all of these blocks are new. -/
theorem Only.old {a w w' : World} {B : Nat → Prop} {m : Nat} (h : Below m a w) (k : Only w w' B) (hm : m ≤ w.heap.size) (hB : ∀ k, B k → m ≤ k) : Below m a w' :=
  ⟨k.os.trans h.os, k.tape.trans h.tape, k.output.trans h.output, Nat.le_trans h.size k.size, fun i hi => (k.block i (by omega) (fun e => by have := hB i e; omega)).trans (h.block i hi)⟩
theorem Only.kept {w w' : World} {B : Nat → Prop} (h : Only w w' B) {k : Nat} {o : Obj} (hk : w.heap[k]? = some o) (hB : ¬ B k) : w'.heap[k]? = some o := (h.block k (lt_of_block hk) hB).trans hk
theorem Only.drewN (w : World) (n : Nat) (B : Nat → Prop) : Only w (w.drewN n) B := ⟨rfl, rfl, rfl, Nat.le_refl _, fun _ _ _ => rfl⟩
theorem own_base {w : World} {base base' k n : Nat} {e : TypeId} {v : Value} {xs : List Value} (h : w.ownsRow base e k v n xs) (hb : base' ≤ base) : w.ownsRow base' e k v n xs := by
  refine ⟨h.1, ?_⟩
  rcases h.2 with hn | ⟨g, cap, cur, rfl, hb', rest⟩
  · exact .inl hn
  · exact .inr ⟨g, cap, cur, rfl, Nat.le_trans hb hb', rest⟩
theorem own_step {w w' : World} {base k n : Nat} {e : TypeId} {v : Value} {xs : List Value} (h : w.ownsRow base e k v n xs) (hb : Below w.heap.size w w') : w'.ownsRow base e k v n xs :=
  h.kept (grownBy_of_below hb none) (by cases hv : v.ownBlock <;> simp)
theorem own_block {w : World} {base k n : Nat} {e : TypeId} {v : Value} {xs : List Value} (h : w.ownsRow base e k v n xs) {g : Nat} (hg : v.ownBlock = some g) : ∃ cs, w.heap[g]? = some (.cells cs e (0, 0)) := by
  rcases h.2 with ⟨rfl, _⟩ | ⟨g', cap, cur, rfl, _, hgg, _⟩
  · simp [Value.ownBlock] at hg
  · simp [Value.ownBlock] at hg
    subst hg
    exact ⟨_, hgg⟩
theorem ownsRow_only {w w' : World} {base k n : Nat} {e : TypeId} {v : Value} {xs : List Value} {B : Nat → Prop} (h : w.ownsRow base e k v n xs) (hw : Only w w' B) (hB : ∀ g, v.ownBlock = some g → ¬ B g) : w'.ownsRow base e k v n xs := by
  refine ⟨h.1, ?_⟩
  rcases h.2 with hn | ⟨g, cap, cur, rfl, hb, hgg, rest⟩
  · exact .inl hn
  · exact .inr ⟨g, cap, cur, rfl, hb, hw.kept hgg (hB g rfl), rest⟩
theorem owns_slice {w : World} {base k n : Nat} {e : TypeId} {v : Value} {xs : List Value} (h : w.ownsRow base e k v n xs) : ∃ a c, v = .slice a n c := by
  rcases h.2 with ⟨rfl, rfl⟩ | ⟨g, cap, cur, rfl, _⟩
  · exact ⟨_, _, rfl⟩
  · exact ⟨_, _, rfl⟩
/-- A row cut in two. -/
theorem row_cut {w : World} {base q n : Nat} {e : TypeId} {v : Value} {xs : List Value} (h : w.ownsRow base e q v n xs) (i : Nat) : (v = .slice none 0 0 ∧ n = 0) ∨ ∃ b c, v = .slice (some ⟨b, 0, none⟩) n c ∧ n ≤ c ∧ c ≤ maxLen ∧ b < w.heap.size ∧
    (∀ j u, (xs.take (i * q))[j]? = some u → w.cell? ((⟨b, 0, none⟩ : Addr).add j) = some u) ∧ (∀ j u, (xs.drop (i * q))[j]? = some u → w.cell? ((⟨b, i * q, none⟩ : Addr).add j) = some u) := by
  have hc := h
  rcases h.2 with ⟨h1, h0⟩ | ⟨g, cap, cur, rfl, hb, hgg, hnc, hcm, _⟩
  · exact Or.inl ⟨h1, h0⟩
  · refine Or.inr ⟨g, cap, rfl, hnc, hcm, lt_of_block hgg, fun j u hu => ?_, fun j u hu => ?_⟩
    · rw [List.getElem?_take] at hu
      split at hu
      · exact hc.cells (g := g) rfl j u hu
      · cases hu
    · rw [List.getElem?_drop] at hu
      have := hc.cells (g := g) rfl _ u hu
      rw [Addr.add_mid, Nat.zero_add] at this
      rw [Addr.add_mid]; exact this
/-- Four cells of a block. -/
theorem box4 {w : World} {k : Nat} {a b c d : Value} {t : TypeId} (h : w.heap[k]? = some (.cells #[a, b, c, d] t (0, 0))) :
    w.cell? ⟨k, 0, none⟩ = some a ∧ w.cell? ⟨k, 1, none⟩ = some b ∧ w.cell? ⟨k, 2, none⟩ = some c ∧ w.cell? ⟨k, 3, none⟩ = some d ∧ (∀ i, w.frozen? ⟨k, i, none⟩ = false) := by
  refine ⟨?_, ?_, ?_, ?_, fun i => frozen_of_row w k i _ _ h⟩ <;> (rw [cell_of_row w k _ _ _ _ h]; rfl)
abbrev I64 (x : Int) : Prop := -9223372036854775808 ≤ x ∧ x ≤ 9223372036854775807
theorem own_set {w : World} {base k g n cap j : Nat} {e : TypeId} {xs : List Value} (h : w.ownsRow base e k (.slice (some ⟨g, 0, none⟩) n cap) n xs) (u : Value) : (w.setCell ⟨g, j, none⟩ u).ownsRow base e k (.slice (some ⟨g, 0, none⟩) n cap) n (xs.set j u) := by
  rcases h.2 with ⟨h0, _⟩ | ⟨g', cap', cur, hv, hb, hg, h1, h2, h3, h4⟩
  · simp at h0
  · simp only [Value.slice.injEq, Option.some.injEq, Addr.mk.injEq] at hv
    obtain ⟨⟨rfl, -, -⟩, -, rfl⟩ := hv
    refine ⟨by rw [List.length_set]; exact h.1, Or.inr ⟨g, cap, cur.setIfInBounds j u, rfl, hb, heap_setCell_same w g j _ _ u hg, h1, h2, by simpa using h3, ?_⟩⟩
    rw [Array.toList_setIfInBounds, List.take_set, h4]
theorem ownsRow_grown {w w' : World} {base k n r : Nat} {e : TypeId} {v : Value} {xs : List Value} {o : Obj} (h : w.ownsRow base e k v n xs) (hg : w.grownBy w' (some r)) (ho : w.heap[r]? = some o) (hk : kindOf o ≠ some e) : w'.ownsRow base e k v n xs := by
  refine h.kept hg (Or.inr fun e2 => ?_)
  obtain ⟨cs, hcs⟩ := own_block h e2
  rw [hcs] at ho
  exact hk (by rw [← Option.some.inj ho]; rfl)
theorem box_grown {w w' : World} {k r : Nat} {o o' : Obj} (h : w.heap[k]? = some o) (hg : w.grownBy w' (some r)) (ho : w.heap[r]? = some o') (hk : kindOf o ≠ kindOf o') : w'.heap[k]? = some o :=
  (hg.block k (lt_of_block h) (fun e => kind_ne h ho hk (Option.some.inj e))).trans h
end Go.Proofs.Ytnapodeiigkebaa

/- Variables of several cells, loaded and stored whole; results that lie in a block. What an append takes. (Split off XJ3, XJ29, XD20 in round 19: plain moves.) -/
namespace Go.Proofs.Ytnapodeiigkebaa
open Go.RowKit Go.Maps
set_option maxRecDepth 100000

/-- Types of variables of so many cells. -/
structure RowTy (t : TypeId) (n : Nat) : Prop where
  under : ∃ d, Try.prog.underlying t = some d ∧ d.isRow = true
  size : (Try.prog.info? t).map (·.size) = some n
section
variable {ops : Array Oper} {rest : List Oper} {op : Oper} {a : Act} {w : World} {Q : Exit → Act → World → Prop} {t t' : TypeId} {n : Nat}
theorem wpR_load (T : RowTy t n) (hgd : op.guard = none) (x : Operand) (ho : op.op = .load t x) (b : Nat) (hx : a.eval x = .pointer (some ⟨b, 0, none⟩)) (cs : Array Value) (hg : w.heap[b]? = some (.cells cs t' (0, 0))) (hn : cs.size = n)
    (h : wpList Try.prog ops Q rest (a.put op.dst (.agg cs)) w) : wpList Try.prog ops Q (op :: rest) a w := by
  obtain ⟨⟨d, h1, h2⟩, hs⟩ := T
  refine wpList_load_row hgd t x ho b hx t' cs (0, 0) d hg h1 ?_ (by rw [hs, hn]) h
  cases d <;> simp_all
theorem wpR_store (T : RowTy t n) (hgd : op.guard = none) (x y : Operand) (ho : op.op = .store t x y) (b : Nat) (cs : Array Value) (hx : a.eval x = .pointer (some ⟨b, 0, none⟩)) (hy : a.eval y = .agg cs) (old : Array Value) (hg : w.heap[b]? = some (.cells old t' (0, 0))) (hn : cs.size = n) (hold : old.size = n) (h1 : cs.all (·.oneCell') = true)
    (h : wpList Try.prog ops Q rest (a.put op.dst undef) (w.setRow b cs)) : wpList Try.prog ops Q (op :: rest) a w :=
  wpList_store_row hgd t x y ho b cs hx hy t' old hg (by rw [T.size, hn]) (by rw [hn, hold]) h1 h
end
theorem run_loadR {t t' : TypeId} {n : Nat} (T : RowTy t n) (w : World) (b : Nat) (cs : Array Value) (hg : w.heap[b]? = some (.cells cs t' (0, 0))) (hn : cs.size = n) : (loadVar t ⟨b, 0, none⟩).run Try.prog w = .ok (.agg cs) w := by
  obtain ⟨⟨d, h1, h2⟩, hs⟩ := T
  refine run_loadVar_row w b t' t cs (0, 0) d hg h1 ?_ (by rw [hs, hn])
  cases d <;> simp_all
/-- What a function answers whose result lies in a block. -/
theorem resR {t t' : TypeId} {n : Nat} (T : RowTy t n) {fn : Func} {p : Tmp} (h : fn.results = #[.cell p t]) (tmps : Array Value) (w : World) (b : Nat) (cs : Array Value) (hp : tmps.getD p undef = .pointer (some ⟨b, 0, none⟩)) (hg : w.heap[b]? = some (.cells cs t' (0, 0))) (hn : cs.size = n) : (results fn tmps).run Try.prog w = .ok (.agg cs) w := by
  have hp' : tmps[p]?.getD undef = .pointer (some ⟨b, 0, none⟩) := by simpa using hp
  simp [results, h, hp', asAddr, run_loadR T w b cs hg hn]
theorem resR2 {t t' : TypeId} {n : Nat} (T : RowTy t n) {fn : Func} {p q : Tmp} (h : fn.results = #[.cell p t, .tmp q]) (tmps : Array Value) (w : World) (b : Nat) (cs : Array Value) (v : Value) (hp : tmps.getD p undef = .pointer (some ⟨b, 0, none⟩)) (hq : tmps.getD q undef = v) (hg : w.heap[b]? = some (.cells cs t' (0, 0))) (hn : cs.size = n) : (results fn tmps).run Try.prog w = .ok (.tuple #[.agg cs, v]) w := by
  have hp' : tmps[p]?.getD undef = .pointer (some ⟨b, 0, none⟩) := by simpa using hp
  have hq' : tmps[q]?.getD undef = v := by simpa using hq
  simp [results, h, hp', hq', asAddr, run_loadR T w b cs hg hn]
theorem rowOtherJ {k g : Nat} (w : World) (cs : Array Value) (h : k ≠ g) {o : Obj} (hk : w.heap[k]? = some o) : (w.setRow g cs).heap[k]? = some o := by
  simp only [World.setRow, Array.getElem?_modify]
  rw [if_neg (fun e => h e.symm)]
  exact hk
/-- What an append may take: nil, or cells that are there. -/
def SrcD (w : World) (sv : Value) (m : Nat) (news : List Value) : Prop := (sv = .slice none 0 0 ∧ m = 0 ∧ news = []) ∨ ∃ ad c, sv = .slice (some ad) m c ∧ ∀ j u, news[j]? = some u → w.cell? (ad.add j) = some u
/-- An append onto one's own row, of nil or of cells. -/
theorem wpList_append_src {P : Program} {w : World} {ops : Array Oper} {rest : List Oper} {o : Oper} {a : Act} {Q : Exit → Act → World → Prop} (hgd : o.guard = none) (s x : Operand) (t : TypeId)
    (ho : o.op = .call { callee := .builtin .append, args := #[s, x], argTypes := #[t, t] })
    (base : Nat) (e : TypeId) (i : TypeInfo) (z : Value) (size bytes : Nat) (ht : P.underlying t = some (.slice e)) (hi : P.info? e = some i) (hz : i.zero = some z)
    (hsize : i.size = size) (hby : i.bytes = bytes) (hzs : z.cells.size = size) (hsz : 0 < size)
    (v : Value) (n : Nat) (xs : List Value) (hs : a.eval s = v) (hown : w.ownsRow base e size v n xs)
    (sv : Value) (m : Nat) (news : List Value) (hx : a.eval x = sv) (hsv : SrcD w sv m news) (hl : news.length = m * size) (h1 : ∀ u ∈ news, u.oneCell' = true)
    (h63 : n + m ≤ maxLen) (hbytes : (n + m) * bytes ≤ 140737488355328) (hbase : base ≤ w.heap.size)
    (h : ∀ v' w', w'.ownsRow base e size v' (n + m) (xs ++ news) → w.grownBy w' v.ownBlock → wpList P ops Q rest (a.put o.dst v') w') : wpList P ops Q (o :: rest) a w := by
  rcases hsv with ⟨rfl, rfl, rfl⟩ | ⟨ad, c, rfl, hc⟩
  · refine wpList_append_own_none hgd s x t ho base e i size ht hi v n xs hs hown hx (h v w ?_ (grownBy_of_below (Below.refl _ _) _))
    rw [Nat.add_zero, List.append_nil]
    exact hown
  · exact wpList_append_own w hgd s x t ho base e i z size bytes ht hi hz hsize hby hzs hsz v n xs hs hown ad m c news hx hl hc h1 h63 hbytes hbase fun v' w' h2 h3 _ => h v' w' h2 h3
end Go.Proofs.Ytnapodeiigkebaa
