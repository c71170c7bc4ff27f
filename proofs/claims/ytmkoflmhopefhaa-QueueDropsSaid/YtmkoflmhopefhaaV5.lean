/- The contract of package queue's All; rows of numbers in memory; the document's own Has and Same of layer 12. Condition: the queue lies as New laid it, or there is none, or nobody made it; the rows lie in memory. -/
import Derived.Test.YtmkoflmhopefhaaV4
namespace Go.Proofs.Ytmkoflmhopefhaa
open Go.RowKit
set_option maxRecDepth 100000

theorem intInfoV : (Try.prog.info? 3).map (fun i => (i.zero, i.size, i.bytes)) = some (some (.int .i64 0), 1, 8) := by kernel_rfl
theorem one_atV (w : World) (u : Value) (t : TypeId) : ∀ (j : Nat) (x : Value), [u][j]? = some x → (w.alloc (.cells #[u] t)).cell? ((⟨w.heap.size, 0, none⟩ : Addr).add j) = some x := fun j x hx => by
  rw [Addr.add_mid, cell_of_row _ _ _ _ _ _ (heap_alloc_new w _)]
  match j, hx with
  | 0, hx => exact hx
  | j + 1, hx => simp at hx
/-- A row of numbers of one's own. -/
abbrev OwnI (w : World) (base : Nat) (v : Value) (L : List Int) : Prop := w.ownsRow base 3 1 v L.length (intsV L)
def AllPostV (w : World) (L : List Int) (e : Ending) (w' : World) : Prop := ∃ v, e = .returned v ∧ OwnI w' w.heap.size v L ∧ Below w.heap.size w w'
theorem take_snocV (L : List Int) (k : Nat) (h : k < L.length) : L.take (k + 1) = L.take k ++ [L.getD k 0] := by
  rw [List.take_succ_eq_append_getElem h, List.getD_eq_getElem?_getD, List.getElem?_eq_getElem h]; rfl

theorem all_noV (p : Option Addr) (w : World) (h : NoQ w p) : Calls Try.prog 13 #[.pointer p] w fun e w' => e = .returned (.slice none 0 0) ∧ w = w' := by
  have H := Lib.hid h
  clear h
  go_enter Try.func13, Try.ntmps13
  go_wp2_with (go_at_call 22; refine (isThere_noV p _ H.out).mono ?_; rintro e w' ⟨rfl, rfl⟩)
  go_ret
  exact ⟨rfl, rfl⟩
set_option maxHeartbeats 2000000 in
theorem all_okV (b : Nat) (L : List Int) (w : World) (q : QAt w b L) : Calls Try.prog 13 #[.pointer (some ⟨b, 0, none⟩)] w (AllPostV w L) := by
  obtain ⟨ii, hi, hi0, hi1, hi2⟩ := info_parts intInfoV
  obtain ⟨A, h, r, B⟩ := q.ex
  have R := Lib.hid r
  obtain ⟨m, hm⟩ : ∃ m, m = L.length := ⟨_, rfl⟩
  rw [← hm] at B
  have BX := Lib.hid B
  have HM := Lib.hid hm
  have hm8 : m ≤ 8 := B.many
  have cm := B.howMany
  clear q r B hm
  go_enter Try.func13, Try.ntmps13
  go_wp2_with (go_at_call 22; refine (isThere_someV b true _ BX.out.made).mono ?_; rintro e w' ⟨rfl, rfl⟩)
  go_loopw [3, 12] (fun l i wr => ∃ k : Nat, i = .int .i64 (k : Int) ∧ k ≤ m ∧ OwnI wr w.heap.size l (L.take k) ∧ Below w.heap.size w wr) (fun _ i _ => m - (intOf i).toNat)
  case atStart => exact ⟨0, rfl, Nat.zero_le _, World.ownsRow_nil _ _ _ _, Below.refl _ _⟩
  case round =>
    obtain ⟨k, rfl, hk, ho, hb⟩ := hrel
    have O := Lib.hid ho
    have BB := Lib.hid hb
    clear ho hb
    by_cases hlt : k < m
    · obtain ⟨z, hz⟩ : ∃ z, (h + k) % 8 = z := ⟨_, rfl⟩
      have BR := Lib.hid (BX.out.below BB.out)
      have AT := Lib.hid (at_okV b h k z wr BR.out.head BR.out.top (by omega) hz)
      have hx := R.out.at_ k (by have := HM.out; omega)
      have ck := BR.out.at_ z (by omega)
      rw [hz] at hx
      rw [hx] at ck
      have TS := take_snocV L k (by have := HM.out; omega)
      have htl : (L.take k).length = k := by rw [List.length_take]; have := HM.out; omega
      have hx64 : True := trivial
      obtain ⟨x, hX⟩ : ∃ x, x = L.getD k 0 := ⟨_, rfl⟩
      rw [← hX] at ck TS
      have CK := Lib.hid ck
      have TS := Lib.hid TS
      clear hz hx ck hX
      go_wp2_with (first
        | (go_at_call 23; refine AT.out.mono ?_; rintro e w5 ⟨rfl, q2, hq2⟩; have ck5 : w5.cell? ⟨b, z, none⟩ = some (.int .i64 x) := (by rw [hq2]; exact CK.out); have O2 : Hid (OwnI (w5.alloc (.cells #[.int .i64 x] 3)) w.heap.size u3 (L.take k)) := Lib.hid (World.ownsRow.alloc (by rw [hq2]; exact own_step O.out (below_drawsV wr q2)) _); have B5 : Hid (Below w.heap.size w w5) := Lib.hid (by rw [hq2]; exact below_drewN BB.out q2); have B2 := Lib.hid (B5.out.alloc B5.out.size (.cells #[.int .i64 x] 3)); clear hq2)
        | (at_builtin; refine wpList_append_own _ rfl (.tmp 15) (.tmp 21) 26 rfl w.heap.size 3 ii (.int .i64 0) 1 8 Try.underlying26 hi hi0 hi1 hi2 rfl (by decide) _ (L.take k).length _ rfl O2.out ⟨w5.heap.size, 0, none⟩ 1 1 [.int .i64 x] rfl rfl (one_atV w5 _ _) (by simp [Value.oneCell']) (by unfold maxLen; omega) (by omega) B2.out.size ?_; intro v3 w3 ho hg _))
      have O3 : Hid (OwnI w3 w.heap.size v3 (L.take (k + 1))) := Lib.hid (by unfold OwnI; rw [TS.out, intsV_snoc, List.length_append]; exact ho)
      have B3 := Lib.hid (B2.out.grown hg B2.out.size (fun k hk => (O2.out.lt k hk).1))
      clear ho hg
      go_wp2
      go_roundw
      case rel => exact ⟨k + 1, by go_num, by omega, O3.out, B3.out⟩
      case measure => simp [intOf]; omega
    · obtain rfl : k = m := by omega
      go_wp2
      go_ret
      exact ⟨_, rfl, by have := O.out; rwa [HM.out, List.take_length] at this, BB.out⟩

/-- A slice of numbers that may be read. -/
def RRow (w : World) (v : Value) (L : List Int) : Prop := ∃ a c, v = .slice a L.length c ∧ (L = [] ∨ ∃ b o, a = some ⟨b, o, none⟩ ∧ b < w.heap.size ∧ ∀ i, i < L.length → w.cell? ⟨b, o + i, none⟩ = some (.int .i64 (L.getD i 0)))
theorem RRow.below {w w' : World} {v : Value} {L : List Int} (h : RRow w v L) (hb : Below w.heap.size w w') : RRow w' v L := by
  obtain ⟨a, c, rfl, h⟩ := h
  refine ⟨a, c, rfl, ?_⟩
  rcases h with h | ⟨b, o, h1, h2, h3⟩
  · exact Or.inl h
  · exact Or.inr ⟨b, o, h1, Nat.lt_of_lt_of_le h2 hb.size, fun i hi => (hb.cell (p := ⟨b, o + i, none⟩) h2).trans (h3 i hi)⟩
/-- The row read, whatever comes that leaves old memory as it was. -/
theorem RRow.open_ {w : World} {v : Value} {L : List Int} (h : RRow w v L) : ∃ a c, v = .slice a L.length c ∧ ∀ k, k < L.length → ∃ b o, a = some ⟨b, o, none⟩ ∧ b < w.heap.size ∧ ∀ w', Below w.heap.size w w' → w'.cell? ⟨b, o + k, none⟩ = some (.int .i64 (L.getD k 0)) := by
  obtain ⟨a, c, rfl, h⟩ := h
  refine ⟨a, c, rfl, fun k hk => ?_⟩
  rcases h with rfl | ⟨b, o, h1, h2, h3⟩
  · exact absurd hk (Nat.not_lt_zero _)
  · exact ⟨b, o, h1, h2, fun w' hb => (hb.cell (p := ⟨b, o + k, none⟩) h2).trans (h3 k hk)⟩
/-- A slice of numbers, whose block holds numbers alone. -/
def ZRow (w : World) (v : Value) (L : List Int) : Prop := (v = .slice none 0 0 ∧ L = []) ∨ ∃ b o c cs, v = .slice (some ⟨b, o, none⟩) L.length c ∧ L.length ≤ c ∧ c ≤ maxLen ∧ w.heap[b]? = some (.cells cs 3 (0, 0)) ∧ ∀ i, i < L.length → cs[o + i]? = some (.int .i64 (L.getD i 0))
theorem ZRow.nil (w : World) : ZRow w (.slice none 0 0) [] := Or.inl ⟨rfl, rfl⟩
theorem ZRow.read {w : World} {v : Value} {L : List Int} (h : ZRow w v L) : RRow w v L := by
  rcases h with ⟨rfl, rfl⟩ | ⟨b, o, c, cs, rfl, _, _, h3, h4⟩
  · exact ⟨none, 0, rfl, Or.inl rfl⟩
  · exact ⟨_, c, rfl, Or.inr ⟨b, o, rfl, lt_of_block h3, fun i hi => by rw [cell_of_row w b _ _ _ _ h3]; exact h4 i hi⟩⟩
theorem ZRow.below {w w' : World} {v : Value} {L : List Int} (h : ZRow w v L) (hb : Below w.heap.size w w') : ZRow w' v L := by
  rcases h with h | ⟨b, o, c, cs, h0, h1, h2, h3, h4⟩
  · exact Or.inl h
  · exact Or.inr ⟨b, o, c, cs, h0, h1, h2, below_block hb h3, h4⟩
/-- What a queue does leaves it as it was. -/
theorem ZRow.to {w w' : World} {v : Value} {L K K' : List Int} {b : Nat} (h : ZRow w v L) (q : QAt w b K) (t : ToV w w' b K') : ZRow w' v L := by
  rcases h with h | ⟨g, o, c, cs, h0, h1, h2, h3, h4⟩
  · exact Or.inl h
  · obtain ⟨cs', hq⟩ := q.block
    have hne : g ≠ b := kind_ne h3 hq (by simp only [kindOf]; decide)
    exact Or.inr ⟨g, o, c, cs, h0, h1, h2, (t.grown.block g (lt_of_block h3) (fun e => hne (Option.some.inj e))).trans h3, h4⟩
theorem own_zrow {w : World} {base : Nat} {v : Value} {L : List Int} (h : OwnI w base v L) : ZRow w v L := by
  rcases h.2 with ⟨rfl, h0⟩ | ⟨g, cap, cur, rfl, hb, hg, h1, h2, h3, h4⟩
  · exact Or.inl ⟨rfl, List.eq_nil_of_length_eq_zero h0⟩
  · refine Or.inr ⟨g, 0, cap, cur, rfl, h1, h2, hg, fun i hi => ?_⟩
    have := h.cells (g := g) rfl i _ (intsV_get L i hi)
    rw [Addr.add_mid, cell_of_row w g _ _ _ _ hg] at this
    exact this

set_option maxHeartbeats 1000000 in
theorem rhasV (L : List Int) (v : Value) (n : Int) (w : World) (h : RRow w v L) (hl : L.length ≤ 2000) {y : Bool} (hy : decide (n ∈ L) = y) : Calls Try.prog 18 #[v, .int .i64 n] w fun e w' => e = .returned (.bool y) ∧ w = w' := by
  obtain ⟨a, c, rfl, hc⟩ := h.open_
  have HC := Lib.hid hc
  obtain ⟨m, hm⟩ : ∃ m, m = L.length := ⟨_, rfl⟩
  rw [← hm] at hl ⊢
  have HM := Lib.hid hm
  have HY := Lib.hid hy
  clear h hc hm hy
  go_enter Try.func18, Try.ntmps18
  go_wp2_with fail
  obtain ⟨W, hW⟩ : ∃ W, W = w := ⟨_, rfl⟩
  rw [← hW] at HC
  have HW := Lib.hid hW
  clear hW
  go_loopw [5] (fun i wr => ∃ k : Nat, i = .int .i64 (k : Int) ∧ k ≤ m ∧ n ∉ L.take k ∧ W = wr) (fun i _ => m - (intOf i).toNat)
  case atStart => exact ⟨0, rfl, Nat.zero_le _, by simp, HW.out⟩
  case round =>
    obtain ⟨k, rfl, hk, hno, rfl⟩ := hrel
    have NO := Lib.hid hno
    clear hno
    by_cases hlt : k < m
    · obtain ⟨b, o, rfl, _, hcell⟩ := HC.out k (by have := HM.out; omega)
      have ck := hcell W (Below.refl _ _)
      have TS := take_succV L k n (by have := HM.out; omega)
      have hmem := getD_memV (L := L) (i := k) (by have := HM.out; omega)
      obtain ⟨x, hx⟩ : ∃ x, x = L.getD k 0 := ⟨_, rfl⟩
      rw [← hx] at ck TS hmem
      have TS := Lib.hid TS
      have MEM := Lib.hid hmem
      clear hcell hx hmem
      by_cases he : x = n
      · have hb : (x == n) = true := by simp [he]
        have Y : Hid (y = true) := Lib.hid (by rw [← HY.out, ← he]; exact decide_eq_true MEM.out)
        clear he
        go_wp2
        go_ret
        exact ⟨by rw [Y.out]; rfl, HW.out.symm⟩
      · have hb : (x == n) = false := by simp [he]
        have HE := Lib.hid he
        clear he
        go_wp2
        go_roundw
        case rel => exact ⟨k + 1, by go_num, by omega, fun hh => by
          rcases TS.out.1 hh with hh | hh
          · exact NO.out hh
          · exact HE.out hh, trivial⟩
        case measure => simp [intOf]; omega
    · obtain rfl : k = m := by omega
      have Y : Hid (y = false) := Lib.hid (by
        have hno := NO.out
        rw [HM.out, List.take_length] at hno
        rw [← HY.out]; exact decide_eq_false hno)
      clear hlt
      go_wp2
      go_ret
      exact ⟨by rw [Y.out]; rfl, HW.out.symm⟩

set_option maxHeartbeats 1000000 in
theorem rsameV (L : List Int) (v1 v2 : Value) (w : World) (h1 : RRow w v1 L) (h2 : RRow w v2 L) (hl : L.length ≤ 2000) : Calls Try.prog 12 #[v1, v2] w fun e w' => e = .returned (.bool true) ∧ ∃ q, w' = w.drewN q := by
  obtain ⟨a, c, rfl, hc⟩ := h1.open_
  obtain ⟨a', c', rfl, hc'⟩ := h2.open_
  have HC := Lib.hid hc
  have HC' := Lib.hid hc'
  obtain ⟨m, hm⟩ : ∃ m, m = L.length := ⟨_, rfl⟩
  rw [← hm] at hl ⊢
  have HM := Lib.hid hm
  clear h1 h2 hc hc' hm
  go_enter Try.func12, Try.ntmps12
  go_wp2_with fail
  obtain ⟨W, hW⟩ : ∃ W, W = w := ⟨_, rfl⟩
  rw [← hW] at HC HC'
  have HW := Lib.hid hW
  clear hW
  go_loopw [5] (fun i wr => ∃ k : Nat, i = .int .i64 (k : Int) ∧ k ≤ m ∧ ∃ q, wr = W.drewN q) (fun i _ => m - (intOf i).toNat)
  case atStart => exact ⟨0, rfl, Nat.zero_le _, 0, HW.out.symm⟩
  case round =>
    obtain ⟨k, rfl, hk, q, rfl⟩ := hrel
    by_cases hlt : k < m
    · obtain ⟨b, o, rfl, hbl, hcell⟩ := HC.out k (by have := HM.out; omega)
      obtain ⟨b', o', rfl, hbl', hcell'⟩ := HC'.out k (by have := HM.out; omega)
      have ck := hcell W (Below.refl _ _)
      have ck' := hcell' W (Below.refl _ _)
      generalize L.getD k 0 = x at ck ck'
      clear hcell hcell'
      go_wp2_with fail
      go_quiet (fail)
      go_wp2
      go_roundw
      case rel => exact ⟨k + 1, by go_num, by omega, q + nq, by simp⟩
      case measure => simp [intOf]; omega
    · obtain rfl : k = m := by omega
      go_wp2
      go_ret
      exact ⟨rfl, q, by rw [HW.out]⟩
end Go.Proofs.Ytmkoflmhopefhaa
