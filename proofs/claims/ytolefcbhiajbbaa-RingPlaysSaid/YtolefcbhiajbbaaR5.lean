/- Variables of several cells, loaded and stored whole; results that lie in a block. What an append takes. (Split off XJ3, XJ29, XD20 in round 19: plain moves.) -/
import Derived.Test.YtolefcbhiajbbaaA0
import Derived.Laws.AppendOwnNone
namespace Go.Proofs.Ytolefcbhiajbbaa
open Go.RowKit Go.Maps
set_option maxRecDepth 100000

/-- Types of variables of so many cells. -/
structure RowTy (t : TypeId) (n : Nat) : Prop where
  under : ∃ d, Try.prog.underlying t = some d ∧ d.isRow = true
  size : (Try.prog.info? t).map (·.size) = some n
section
variable {ops : Array Oper} {rest : List Oper} {op : Oper} {a : Act} {w : World} {Q : Exit → Act → World → Prop} {t t' : TypeId} {n : Nat}
theorem wpR_load (T : RowTy t n) (hgd : op.guard = none) (x : Operand) (ho : op.op = .load t x) (b : Nat) (hx : a.eval x = .pointer (some ⟨b, 0, none⟩)) (cs : Array Value) (hg : w.heap[b]? = some (.cells cs t' (0, 0))) (hn : cs.size = n)
    (h : wpList Try.prog ops Q rest (a.put op.dst (.agg cs)) w) : wpList Try.prog ops Q (op :: rest) a w := by
  obtain ⟨⟨d, h1, h2⟩, hs⟩ := T
  refine wpList_load_row hgd t x ho b hx t' cs (0, 0) d hg h1 ?_ (by rw [hs, hn]) h
  cases d <;> simp_all
theorem wpR_store (T : RowTy t n) (hgd : op.guard = none) (x y : Operand) (ho : op.op = .store t x y) (b : Nat) (cs : Array Value) (hx : a.eval x = .pointer (some ⟨b, 0, none⟩)) (hy : a.eval y = .agg cs) (old : Array Value) (hg : w.heap[b]? = some (.cells old t' (0, 0))) (hn : cs.size = n) (hold : old.size = n) (h1 : cs.all (·.oneCell') = true)
    (h : wpList Try.prog ops Q rest (a.put op.dst undef) (w.setRow b cs)) : wpList Try.prog ops Q (op :: rest) a w :=
  wpList_store_row hgd t x y ho b cs hx hy t' old hg (by rw [T.size, hn]) (by rw [hn, hold]) h1 h
theorem wantedJ {P : Program} (hw : Region.wanted op (yielded ops a.tmps) = true)
    (h : ∀ K : Act → World → Prop, (∀ a w, wpList P ops Q rest a w → K a w) → op.wp P a w K Q) : wpList P ops Q (op :: rest) a w :=
  wpList_step fun K hK => by rw [if_pos hw]; exact h K hK
theorem wpR_loadG {t t' : TypeId} {n : Nat} (T : RowTy t n) (hw : Region.wanted op (yielded ops a.tmps) = true) (x : Operand) (ho : op.op = .load t x) (b : Nat) (hx : a.eval x = .pointer (some ⟨b, 0, none⟩)) (cs : Array Value) (hg : w.heap[b]? = some (.cells cs t' (0, 0))) (hn : cs.size = n)
    (h : wpList Try.prog ops Q rest (a.put op.dst (.agg cs)) w) : wpList Try.prog ops Q (op :: rest) a w := by
  obtain ⟨⟨d, h1, h2⟩, hs⟩ := T
  exact wantedJ hw fun _ hK => wp_load_row t x ho b hx t' cs (0, 0) d hg h1 (by cases d <;> simp_all) (by rw [hs, hn]) (hK _ _ h)
end
theorem run_loadR {t t' : TypeId} {n : Nat} (T : RowTy t n) (w : World) (b : Nat) (cs : Array Value) (hg : w.heap[b]? = some (.cells cs t' (0, 0))) (hn : cs.size = n) : (loadVar t ⟨b, 0, none⟩).run Try.prog w = .ok (.agg cs) w := by
  obtain ⟨⟨d, h1, h2⟩, hs⟩ := T
  refine run_loadVar_row w b t' t cs (0, 0) d hg h1 ?_ (by rw [hs, hn])
  cases d <;> simp_all
/-- What a function answers whose result lies in a block. -/
theorem resR {t t' : TypeId} {n : Nat} (T : RowTy t n) {fn : Func} {p : Tmp} (h : fn.results = #[.cell p t]) (tmps : Array Value) (w : World) (b : Nat) (cs : Array Value) (hp : tmps.getD p undef = .pointer (some ⟨b, 0, none⟩)) (hg : w.heap[b]? = some (.cells cs t' (0, 0))) (hn : cs.size = n) : (results fn tmps).run Try.prog w = .ok (.agg cs) w := by
  have hp' : tmps[p]?.getD undef = .pointer (some ⟨b, 0, none⟩) := by simpa using hp
  simp [results, h, hp', asAddr, run_loadR T w b cs hg hn]
theorem resR2 {t t' : TypeId} {n : Nat} (T : RowTy t n) {fn : Func} {p q : Tmp} (h : fn.results = #[.cell p t, .tmp q]) (tmps : Array Value) (w : World) (b : Nat) (cs : Array Value) (v : Value) (hp : tmps.getD p undef = .pointer (some ⟨b, 0, none⟩)) (hq : tmps.getD q undef = v) (hg : w.heap[b]? = some (.cells cs t' (0, 0))) (hn : cs.size = n) : (results fn tmps).run Try.prog w = .ok (.tuple #[.agg cs, v]) w := by
  have hp' : tmps[p]?.getD undef = .pointer (some ⟨b, 0, none⟩) := by simpa using hp
  have hq' : tmps[q]?.getD undef = v := by simpa using hq
  simp [results, h, hp', hq', asAddr, run_loadR T w b cs hg hn]
theorem rowOtherJ {k g : Nat} (w : World) (cs : Array Value) (h : k ≠ g) {o : Obj} (hk : w.heap[k]? = some o) : (w.setRow g cs).heap[k]? = some o := by
  simp only [World.setRow, Array.getElem?_modify]
  rw [if_neg (fun e => h e.symm)]
  exact hk
/-- What an append may take: nil, or cells that are there. -/
def SrcD (w : World) (sv : Value) (m : Nat) (news : List Value) : Prop := (sv = .slice none 0 0 ∧ m = 0 ∧ news = []) ∨ ∃ ad c, sv = .slice (some ad) m c ∧ ∀ j u, news[j]? = some u → w.cell? (ad.add j) = some u
/-- An append onto one's own row, of nil or of cells. -/
theorem wpList_append_src {P : Program} {w : World} {ops : Array Oper} {rest : List Oper} {o : Oper} {a : Act} {Q : Exit → Act → World → Prop} (hgd : o.guard = none) (s x : Operand) (t : TypeId)
    (ho : o.op = .call { callee := .builtin .append, args := #[s, x], argTypes := #[t, t] })
    (base : Nat) (e : TypeId) (i : TypeInfo) (z : Value) (size bytes : Nat) (ht : P.underlying t = some (.slice e)) (hi : P.info? e = some i) (hz : i.zero = some z)
    (hsize : i.size = size) (hby : i.bytes = bytes) (hzs : z.cells.size = size) (hsz : 0 < size)
    (v : Value) (n : Nat) (xs : List Value) (hs : a.eval s = v) (hown : w.ownsRow base e size v n xs)
    (sv : Value) (m : Nat) (news : List Value) (hx : a.eval x = sv) (hsv : SrcD w sv m news) (hl : news.length = m * size) (h1 : ∀ u ∈ news, u.oneCell' = true)
    (h63 : n + m ≤ maxLen) (hbytes : (n + m) * bytes ≤ 140737488355328) (hbase : base ≤ w.heap.size)
    (h : ∀ v' w', w'.ownsRow base e size v' (n + m) (xs ++ news) → w.grownBy w' v.ownBlock → wpList P ops Q rest (a.put o.dst v') w') : wpList P ops Q (o :: rest) a w := by
  rcases hsv with ⟨rfl, rfl, rfl⟩ | ⟨ad, c, rfl, hc⟩
  · refine wpList_append_own_none hgd s x t ho base e i size ht hi v n xs hs hown hx (h v w ?_ (grownBy_of_below (Below.refl _ _) _))
    rw [Nat.add_zero, List.append_nil]
    exact hown
  · exact wpList_append_own w hgd s x t ho base e i z size bytes ht hi hz hsize hby hzs hsz v n xs hs hown ad m c news hx hl hc h1 h63 hbytes hbase fun v' w' h2 h3 _ => h v' w' h2 h3
end Go.Proofs.Ytolefcbhiajbbaa
