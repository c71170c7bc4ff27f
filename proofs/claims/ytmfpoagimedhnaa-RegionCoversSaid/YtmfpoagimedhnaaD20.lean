/- A copy of what came in; the walk of the law RegionAdd. Condition: the slice lies in memory. -/
import Derived.Test.YtmfpoagimedhnaaD19
namespace Go.Proofs.Ytmfpoagimedhnaa
open Go.RowKit Go.Maps
set_option maxRecDepth 100000

/-- What an append may take: nil, or cells that are there. -/
def SrcD (w : World) (sv : Value) (m : Nat) (news : List Value) : Prop := (sv = .slice none 0 0 ∧ m = 0 ∧ news = []) ∨ ∃ ad c, sv = .slice (some ad) m c ∧ ∀ j u, news[j]? = some u → w.cell? (ad.add j) = some u
/-- An append onto one's own row, of nil or of cells. -/
theorem wpList_append_src {P : Program} {w : World} {ops : Array Oper} {rest : List Oper} {o : Oper} {a : Act} {Q : Exit → Act → World → Prop} (hgd : o.guard = none) (s x : Operand) (t : TypeId)
    (ho : o.op = .call { callee := .builtin .append, args := #[s, x], argTypes := #[t, t] })
    (base : Nat) (e : TypeId) (i : TypeInfo) (z : Value) (size bytes : Nat) (ht : P.underlying t = some (.slice e)) (hi : P.info? e = some i) (hz : i.zero = some z)
    (hsize : i.size = size) (hby : i.bytes = bytes) (hzs : z.cells.size = size) (hsz : 0 < size)
    (v : Value) (n : Nat) (xs : List Value) (hs : a.eval s = v) (hown : w.ownsRow base e size v n xs)
    (sv : Value) (m : Nat) (news : List Value) (hx : a.eval x = sv) (hsv : SrcD w sv m news) (hl : news.length = m * size) (h1 : ∀ u ∈ news, u.oneCell' = true)
    (h63 : n + m ≤ maxLen) (hbytes : (n + m) * bytes ≤ 140737488355328) (hbase : base ≤ w.heap.size)
    (h : ∀ v' w', w'.ownsRow base e size v' (n + m) (xs ++ news) → w.grownBy w' v.ownBlock → wpList P ops Q rest (a.put o.dst v') w') : wpList P ops Q (o :: rest) a w := by
  rcases hsv with ⟨rfl, rfl, rfl⟩ | ⟨ad, c, rfl, hc⟩
  · refine wpList_append_own_none hgd s x t ho base e i size ht hi v n xs hs hown hx (h v w ?_ (grownBy_of_below (Below.refl _ _) _))
    rw [Nat.add_zero, List.append_nil]
    exact hown
  · exact wpList_append_own w hgd s x t ho base e i z size bytes ht hi hz hsize hby hzs hsz v n xs hs hown ad m c news hx hl hc h1 h63 hbytes hbase fun v' w' h2 h3 _ => h v' w' h2 h3
theorem arsV_cell {w : World} {b o : Nat} {L : List Ar} (h : ∀ i, i < L.length → CellsD w b (o + i * 3) (L.getD i default)) (j : Nat) (u : Value) (hu : (arsV L)[j]? = some u) : w.cell? ((⟨b, o, none⟩ : Addr).add j) = some u := by
  have hj : j < L.length * 3 := by have := (List.getElem?_eq_some_iff.1 hu).1; rwa [arsV_len] at this
  have hi : j / 3 < L.length := by omega
  obtain ⟨a0, a1, a2⟩ := arsV_get L (j / 3) hi
  obtain ⟨c0, c1, c2⟩ := h (j / 3) hi
  rw [Addr.add_mid]
  rcases (show j = j / 3 * 3 ∨ j = j / 3 * 3 + 1 ∨ j = j / 3 * 3 + 2 by omega) with e | e | e
  · rw [e] at hu
    rw [a0] at hu
    rw [e, ← Option.some.inj hu]
    exact c0
  · rw [e] at hu
    rw [a1] at hu
    rw [e, ← Option.some.inj hu]
    exact c1
  · rw [e] at hu
    rw [a2] at hu
    rw [e, ← Option.some.inj hu]
    exact c2
theorem ArgAr.src {w : World} {v : Value} {L : List Ar} (h : ArgAr w v L) : ∀ V, Below w.heap.size w V → SrcD V v L.length (arsV L) := by
  obtain ⟨a, c, rfl, hn, hw, hc⟩ := h
  intro V hV
  cases a with
  | none =>
    rcases hc with rfl | ⟨b, o, e, _⟩
    · exact Or.inl ⟨by rw [hn rfl]; rfl, rfl, rfl⟩
    · cases e
  | some ad =>
    refine Or.inr ⟨ad, c, rfl, fun j u hu => ?_⟩
    rcases hc with rfl | ⟨b, o, e, hlt, hc⟩
    · simp [arsV] at hu
    · cases e
      refine arsV_cell (fun i hi => ?_) j u hu
      obtain ⟨c0, c1, c2⟩ := hc i hi
      have k : ∀ q, V.cell? ⟨b, q, none⟩ = w.cell? ⟨b, q, none⟩ := fun q => hV.cell (p := ⟨b, q, none⟩) hlt
      exact ⟨(k _).trans c0, (k _).trans c1, (k _).trans c2⟩
theorem regionAdd_far (n c : Nat) (a : Option Addr) (x y : Int) (b : Bool) (W : World) (hn : 100 < n) : Calls Try.prog 4 #[.slice a n c, .agg #[.int .i64 x, .int .i64 y, .bool b]] W fun e w' => e = .returned (.bool true) ∧ Below W.heap.size W w' := by
  have B0 : Hid (Below W.heap.size W (W.alloc (.cells #[.int .i64 x, .int .i64 y, .bool b] 32))) := Lib.hid ((Below.refl _ _).alloc (Nat.le_refl _) _)
  go_enter Try.func4, Try.ntmps4
  go_wp2_with (go_at_call 10; refine (awake14 _).mono ?_; rintro e w2 ⟨rfl, hb⟩; have B := Lib.hid (B0.out.trans (hb.mono B0.out.size)); clear hb)
  go_ret
  exact ⟨rfl, B.out⟩
set_option maxHeartbeats 4000000 in
theorem regionAdd_near (L : List Ar) (v : Value) (x y : Int) (b : Bool) (hx : I64 x) (hy : I64 y) (W : World) (hl : L.length ≤ 100) (h : ArgAr W v L) : Calls Try.prog 4 #[v, .agg #[.int .i64 x, .int .i64 y, .bool b]] W fun e w' => e = .returned (.bool true) ∧ Below W.heap.size W w' := by
  obtain ⟨ii, hi, hi0, hi1, hi2⟩ := info_parts areaInfo
  obtain ⟨w0, hw0⟩ : ∃ w0, w0 = W.alloc (.cells #[.int .i64 x, .int .i64 y, .bool b] 32) := ⟨_, rfl⟩
  have B0 : Hid (Below W.heap.size W w0) := Lib.hid (by rw [hw0]; exact (Below.refl _ _).alloc (Nat.le_refl _) _)
  have R0 : Hid (w0.heap[W.heap.size]? = some (.cells #[.int .i64 x, .int .i64 y, .bool b] 32 (0, 0))) := Lib.hid (by rw [hw0]; exact heap_alloc_new W _)
  have HW := Lib.hid hw0
  have sz0 : w0.heap.size = W.heap.size + 1 := by rw [hw0]; simp
  have OM := World.ownsRow_lit (base := w0.heap.size) (e := 32) (size := 3) w0 #[] 0 (Nat.le_refl _) (by decide) rfl
  rw [sz0] at OM
  have OM := Lib.hid OM
  have AM : Hid (Below w0.heap.size w0 (w0.alloc (.cells #[] 32))) := Lib.hid ((Below.refl _ _).alloc (Nat.le_refl _) _)
  have A0 := Lib.hid (h.near hl)
  have WD := Lib.hid (show ∀ x ∈ L, WideD x from by obtain ⟨_, _, _, _, hw, _⟩ := h; exact hw)
  have SR := Lib.hid (h.src _ (B0.out.trans (AM.out.mono B0.out.size)))
  have AD := Lib.hid (fun u V (hV : ArAt V u L) => Add_okD L u x y b hx hy V hV)
  have RD := Lib.hid (fun V (hV : ArAt V v L) => rAdd_okD L v x y b hx hy V hV)
  obtain ⟨a, c, rfl⟩ := h.form
  obtain ⟨n, hn⟩ : ∃ n, n = L.length := ⟨_, rfl⟩
  rw [← hn] at A0 SR RD hl ⊢
  have HN := Lib.hid hn
  have DN : Hid (∀ u V, V.ownsRow (W.heap.size + 1) 32 3 u (0 + n) ([] ++ arsV L) → ArAt V u L) := Lib.hid fun u V ho => by
    rw [Nat.zero_add, List.nil_append, HN.out] at ho
    exact ArAt.of_row ho (by rw [← HN.out]; omega) WD.out
  have SZ := Lib.hid sz0
  clear h hn hw0 sz0 hx hy
  go_enter Try.func4, Try.ntmps4
  rw [HW.out] at OM AM SR
  obtain ⟨b0, b1, b2⟩ := cells3 (heap_alloc_new W (.cells #[.int .i64 x, .int .i64 y, .bool b] 32))
  go_wp2_with (first
    | (at_builtin; refine wpList_append_src rfl (.tmp 14) (.tmp 15) 22 rfl (W.heap.size + 1) 32 ii (.agg #[.int .i64 0, .int .i64 0, .bool false]) 3 24 Try.underlying22 hi hi0 hi1 hi2 rfl (by decide) _ 0 [] rfl OM.out _ n (arsV L) rfl SR.out (by rw [arsV_len, HN.out]) (arsV_one L) (by unfold maxLen; omega) (by omega) (by simp) ?_; intro v5 w5 ho hg; have A5 := Lib.hid (DN.out _ _ ho); have B5 : Hid (Below w0.heap.size w0 w5) := Lib.hid (by rw [HW.out]; exact below_grown AM.out hg (Nat.le_refl _) (fun g h => by have := (World.ownsRow.lt OM.out g h).1; have := SZ.out; rw [HW.out] at this; omega)); obtain ⟨b0, b1, b2⟩ := cells3 (below_block B5.out R0.out); obtain ⟨a5, c5, rfl⟩ := A5.out.form; clear ho hg))
  refine (AD.out _ _ A5.out).mono ?_
  rintro e w6 ⟨v6, er, M, rfl, ha, hat, hb⟩
  have HA := Lib.hid ha
  have B6 := Lib.hid (B5.out.trans (hb.mono B5.out.size))
  have X6 := Lib.hid hat
  have A6 := Lib.hid (A5.out.below hb)
  clear b0 b1 b2
  obtain ⟨b0, b1, b2⟩ := cells3 (below_block B6.out R0.out)
  obtain ⟨a6, c6, rfl⟩ := hat.form
  clear ha hat hb
  go_wp2_with fail
  refine (RD.out _ (A0.out.below (B0.out.trans (B6.out.mono B0.out.size)))).mono ?_
  rintro e w7 ⟨v7, er', M', rfl, ha, hat, hb⟩
  obtain ⟨rfl, rfl⟩ := AddD.uniq ha HA.out
  have B7 := Lib.hid (B6.out.trans (hb.mono B6.out.size))
  have X7 := Lib.hid (X6.out.below hb)
  have Y7 := Lib.hid hat
  have A7 := Lib.hid (A6.out.below hb)
  obtain ⟨a7, c7, rfl⟩ := hat.form
  clear ha hat hb b0 b1 b2
  go_wp2_with fail
  refine (sameD _ _ _ _ X7.out Y7.out).mono ?_
  rintro e w8 ⟨rfl, hb⟩
  have B8 := Lib.hid (B7.out.trans (hb.mono B7.out.size))
  have A8 := Lib.hid (A7.out.below hb)
  clear hb
  go_wp2_with fail
  refine (sameD _ _ _ _ A8.out (A0.out.below (B0.out.trans (B8.out.mono B0.out.size)))).mono ?_
  rintro e w9 ⟨rfl, hb⟩
  have B9 := Lib.hid (B8.out.trans (hb.mono B8.out.size))
  clear hb
  go_wp2_with fail
  refine (awake14 _).mono ?_
  rintro e w10 ⟨rfl, hb⟩
  have B10 := Lib.hid (B9.out.trans (hb.mono B9.out.size))
  clear hb
  go_wp2
  go_ret
  exact ⟨rfl, B0.out.trans (B10.out.mono B0.out.size)⟩
theorem regionAdd_walk (v : Value) (L : List Ar) (x y : Int) (b : Bool) (W : World) (h : ArgAr W v L) (hw : WideD (x, y, b)) : Calls Try.prog 4 #[v, .agg #[.int .i64 x, .int .i64 y, .bool b]] W fun e w' => e = .returned (.bool true) ∧ Below W.heap.size W w' := by
  by_cases hl : L.length ≤ 100
  · exact regionAdd_near L v x y b hw.1 hw.2 W hl h
  · obtain ⟨a, c, rfl⟩ := h.form
    exact regionAdd_far _ c a x y b W (by omega)
end Go.Proofs.Ytmfpoagimedhnaa
