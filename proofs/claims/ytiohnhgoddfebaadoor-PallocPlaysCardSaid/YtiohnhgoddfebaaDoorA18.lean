/- The contracts of the document's own Write, Zero, Page of layer 2, on a memory that lies inside a pool of layer 9's. Conditions: its words lie in a block. -/
import Derived.Test.YtiohnhgoddfebaaDoorA9
namespace Go.Proofs.YtiohnhgoddfebaaDoor
open Go.RowKit
set_option maxRecDepth 100000

/-- The document's own memory inside a pool: its words in block rb, its slice at the place 1 of the box rp. -/
structure RefM (w : World) (rp rb n : Nat) (L : List Int) : Prop where
  box : ∃ cs, w.heap[rp]? = some (.cells cs 37 (0, 0)) ∧ cs[1]? = some (.slice (some ⟨rb, 0, none⟩) (n * 32) (n * 32))
  row : w.heap[rb]? = some (.cells (wordsV L) 62 (0, 0))
  len : L.length = n * 32
  ne : rp ≠ rb
  top : n ≤ 1024
theorem RefM.below {w w' : World} {rp rb n : Nat} {L : List Int} (h : RefM w rp rb n L) (hb : Below w.heap.size w w') : RefM w' rp rb n L := by
  obtain ⟨cs, h1, h2⟩ := h.box
  exact ⟨⟨cs, below_block hb h1, h2⟩, below_block hb h.row, h.len, h.ne, h.top⟩

structure RPutsM (w w' : World) (rp rb n : Nat) (L : List Int) : Prop where
  st : RefM w' rp rb n L
  grown : w.grownBy w' (some rb)
theorem RPutsM.stay {w w' : World} {rp rb n : Nat} {L : List Int} (h : RefM w rp rb n L) (hb : Below w.heap.size w w') : RPutsM w w' rp rb n L := ⟨h.below hb, grownBy_of_below hb _⟩
theorem RPutsM.ahead {w w1 w' : World} {rp rb n : Nat} {L : List Int} (hb : Below w.heap.size w w1) (h : RPutsM w1 w' rp rb n L) : RPutsM w w' rp rb n L := ⟨h.st, grownBy_trans (grownBy_of_below hb _) h.grown⟩
theorem RPutsM.next {w w1 w' : World} {rp rb n : Nat} {L L' : List Int} (h : RPutsM w w1 rp rb n L) (k : RPutsM w1 w' rp rb n L') : RPutsM w w' rp rb n L' := ⟨k.st, grownBy_trans h.grown k.grown⟩

theorem RefM.set {w : World} {rp rb n : Nat} {L : List Int} (h : RefM w rp rb n L) (i : Nat) (v : Int) : RPutsM w (w.setCell ⟨rb, i, none⟩ (.int .u32 v)) rp rb n (L.set i v) := by
  have hg := grownBy_setCell w rb i (.int .u32 v)
  have hr := heap_setCell_same w rb i (wordsV L) 62 (.int .u32 v) h.row
  rw [wordsV_set] at hr
  obtain ⟨cs, h1, h2⟩ := h.box
  exact ⟨⟨⟨cs, (hg.block rp (lt_of_block h1) (fun e => h.ne (Option.some.inj e))).trans h1, h2⟩, hr, by rw [List.length_set]; exact h.len, h.ne, h.top⟩, hg⟩
theorem RefM.cellB {w : World} {rp rb n : Nat} {L : List Int} (h : RefM w rp rb n L) : w.cell? ⟨rp, 1, none⟩ = some (.slice (some ⟨rb, 0, none⟩) (n * 32) (n * 32)) := by
  obtain ⟨cs, h1, h2⟩ := h.box
  rw [cell_of_row w rp 1 _ _ _ h1]; exact h2

theorem RefM.cellR {w : World} {rp rb n : Nat} {L : List Int} (h : RefM w rp rb n L) {i : Nat} (hi : i < n * 32) : w.cell? ⟨rb, i, none⟩ = some (.int .u32 (L.getD i 0)) := by
  rw [cell_of_row w rb _ _ _ _ h.row]
  exact wordsV_get L _ (by rw [h.len]; omega)
theorem RefM.freeR {w : World} {rp rb n : Nat} {L : List Int} (h : RefM w rp rb n L) (i : Nat) : w.frozen? ⟨rb, i, none⟩ = false := frozen_of_row w rb i _ _ h.row


set_option maxRecDepth 100000 in
set_option maxHeartbeats 400000 in
theorem rwriteM_no (rp rb n : Nat) (L : List Int) (f q v : Int) (w : World) (hr : RefM w rp rb n L) (h : ¬ okFQ n f q) :
    Calls Tryd.prog 33 #[.pointer (some ⟨rp, 1, none⟩), .int .i64 f, .int .i64 q, .int .u32 v] w fun e w' => e = .returned (.int .i64 2) ∧ Below w.heap.size w w' := by
  have R := Lib.hid hr
  have cb := hr.cellB
  have H := Lib.hid h
  clear h hr
  go_enter Tryd.func33, Tryd.ntmps33
  go_wp2_with fail
  refine (rin_no _ n _ f q _ R.out.top H.out).mono ?_
  rintro e w1 ⟨rfl, hb⟩
  have B1 := Lib.hid hb
  clear hb
  go_wp2
  go_ret
  exact ⟨rfl, B1.out⟩
set_option maxRecDepth 100000 in
set_option maxHeartbeats 400000 in
theorem rwriteM_yes (rp rb n : Nat) (L : List Int) (f q : Nat) (v : Int) (w : World) (hr : RefM w rp rb n L) (hf : f < n) (hq : q < 32) :
    Calls Tryd.prog 33 #[.pointer (some ⟨rp, 1, none⟩), .int .i64 f, .int .i64 q, .int .u32 v] w fun e w' => e = .returned (.int .i64 0) ∧ RPutsM w w' rp rb n (L.set (f * 32 + q) v) := by
  have R := Lib.hid hr
  have cb := Lib.hid hr.cellB
  have HT := hr.top
  clear hr
  go_enter Tryd.func33, Tryd.ntmps33
  have cb0 := cb.out
  go_wp2_with fail
  refine (rin_yes _ n _ f q _ HT (by unfold okFQ; omega)).mono ?_
  rintro e w1 ⟨rfl, hb⟩
  clear cb0
  have R1 := Lib.hid (R.out.below hb)
  have B1 := Lib.hid hb
  have cb1 := R1.out.cellB
  have cw := R1.out.cellR (i := f * 32 + q) (by omega)
  have cf := R1.out.freeR (f * 32 + q)
  have hlt : f * 32 + q < n * 32 := by omega
  clear hb
  go_wp2
  go_ret
  exact ⟨rfl, RPutsM.ahead B1.out (R1.out.set _ v)⟩

set_option maxRecDepth 100000 in
set_option maxHeartbeats 400000 in
theorem rzeroM_no (rp rb n : Nat) (L : List Int) (f : Int) (w : World) (hr : RefM w rp rb n L) (h : ¬ okFQ n f 0) :
    Calls Tryd.prog 52 #[.pointer (some ⟨rp, 1, none⟩), .int .i64 f] w fun e w' => e = .returned (.int .i64 2) ∧ Below w.heap.size w w' := by
  have R := Lib.hid hr
  have cb := hr.cellB
  have H := Lib.hid h
  clear h hr
  go_enter Tryd.func52, Tryd.ntmps52
  go_wp2_with fail
  refine (rin_no _ n _ f 0 _ R.out.top H.out).mono ?_
  rintro e w1 ⟨rfl, hb⟩
  have B1 := Lib.hid hb
  clear hb
  go_wp2
  go_ret
  exact ⟨rfl, B1.out⟩

def RZeroRelM (w : World) (rp rb n f : Nat) (L : List Int) (i : Value) (wr : World) : Prop := ∃ (k : Nat) (K : List Int), i = .int .i64 k ∧ k ≤ 32 ∧ RPutsM w wr rp rb n K ∧ ∀ j, K.getD j 0 = if f * 32 ≤ j ∧ j < f * 32 + k then 0 else L.getD j 0
set_option maxRecDepth 100000 in
set_option maxHeartbeats 1000000 in
theorem rzeroM_yes (rp rb n f : Nat) (L : List Int) (w : World) (hr : RefM w rp rb n L) (hf : f < n) :
    Calls Tryd.prog 52 #[.pointer (some ⟨rp, 1, none⟩), .int .i64 f] w fun e w' => e = .returned (.int .i64 0) ∧ RPutsM w w' rp rb n (putRow L f zeros) := by
  have R := Lib.hid hr
  have HT := hr.top
  have cb0 := hr.cellB
  clear hr
  go_enter Tryd.func52, Tryd.ntmps52
  go_wp2_with fail
  refine (rin_yes _ n _ f 0 _ HT (by unfold okFQ; omega)).mono ?_
  rintro e w1 ⟨rfl, hb⟩
  clear cb0
  have R1 := Lib.hid (RPutsM.stay R.out hb)
  clear hb
  go_wp2_with fail
  go_loopw [5] (fun i wr => RZeroRelM w rp rb n f L i wr) (fun i _ => (32 - (intOf i).toNat))
  case atStart => exact ⟨0, L, rfl, by omega, R1.out, fun j => by rw [if_neg (by omega)]⟩
  case round =>
    obtain ⟨k, K, rfl, hk, hp, hK⟩ := hrel
    have P := Lib.hid hp
    have HK := Lib.hid hK
    clear hp hK
    by_cases hlt : k < 32
    · have cb := P.out.st.cellB
      have cw := P.out.st.cellR (i := f * 32 + k) (by omega)
      have cf := P.out.st.freeR (f * 32 + k)
      have hlt2 : f * 32 + k < n * 32 := by omega
      go_wp2
      go_roundw
      case rel =>
        refine ⟨k + 1, _, by go_num, by omega, P.out.next (P.out.st.set (f * 32 + k) 0), fun j => ?_⟩
        rw [getD_set _ _ _ _ (by rw [P.out.st.len]; omega), HK.out j]
        by_cases h1 : f * 32 + k = j
        · rw [if_pos h1, if_pos (by omega)]
        · rw [if_neg h1]
          by_cases h2 : f * 32 ≤ j ∧ j < f * 32 + k
          · rw [if_pos h2, if_pos (by omega)]
          · rw [if_neg h2, if_neg (by omega)]
      case measure => simp [intOf]; omega
    · obtain rfl : k = 32 := by omega
      have e : K = putRow L f zeros := putRow_ext R.out.len P.out.st.len hf rfl (fun j _ => by rw [HK.out j, zeros_get])
      have E := Lib.hid e
      clear e
      go_wp2
      go_ret
      exact ⟨rfl, by rw [← E.out]; exact P.out⟩


set_option maxRecDepth 100000 in
set_option maxHeartbeats 800000 in
theorem rpageM_yes (rp rb n f : Nat) (L : List Int) (w : World) (hr : RefM w rp rb n L) (hf : f < n) :
    Calls Tryd.prog 16 #[.agg #[.slice (some ⟨rb, 0, none⟩) (n * 32) (n * 32)], .int .i64 f] w (RPagePost w (rowOf L f)) := by
  obtain ⟨i0, hi, hz0, hz1, hz2⟩ := info_parts wordInfo
  have B0 := Lib.hid ((Below.refl w.heap.size w).alloc (Nat.le_refl _) (.cells #[.slice (some ⟨rb, 0, none⟩) (n * 32) (n * 32)] 34))
  have R := Lib.hid hr
  have HT := hr.top
  have hlen := Lib.hid (rowOf_length hr.len hf)
  clear hr
  go_enter Tryd.func16, Tryd.ntmps16
  go_wp2_with fail
  refine (rin_yes _ n _ f 0 _ HT (by unfold okFQ; omega)).mono ?_
  rintro e w1 ⟨rfl, hb⟩
  have B1 := Lib.hid (B0.out.trans (hb.mono B0.out.size))
  have cb := cell_of_one (below_block hb (heap_alloc_new w (.cells #[.slice (some ⟨rb, 0, none⟩) (n * 32) (n * 32)] 34)))
  have hlt : f * 32 + 32 ≤ n * 32 := by omega
  have hz : w.heap.size < w1.heap.size := by have := hb.size; simp at this; omega
  have hown := Lib.hid (World.ownsRow_made (e := 62) (size := 1) (base := w.heap.size) w1 #[] 0 (Nat.le_of_lt hz) (by decide) rfl)
  have B2 := Lib.hid (B1.out.alloc (Nat.le_of_lt hz) (.cells #[] 62))
  have R2 := Lib.hid ((R.out.below B1.out).below ((Below.refl _ _).alloc (Nat.le_refl _) (.cells #[] 62)))
  have hnews : ∀ (j : Nat) (u : Value), ((rowOf L f).map (Value.int .u32))[j]? = some u → (w1.alloc (.cells #[] 62)).cell? ((⟨rb, f * 32, none⟩ : Addr).add j) = some u := fun j u hu => by
    rw [Addr.add_mid, cell_of_row _ rb _ _ _ _ R2.out.row]
    exact rowOf_at R2.out.len hf j u hu
  have HN := Lib.hid hnews
  have H1 : Hid (∀ u ∈ (rowOf L f).map (Value.int .u32), u.oneCell' = true) := Lib.hid (fun u hu => by obtain ⟨x, _, rfl⟩ := List.mem_map.1 hu; rfl)
  have HE : Hid (f * 32 + 32 - f * 32 = 32) := Lib.hid (by omega)
  clear hb hnews
  go_wp2_with (at_builtin; refine wpList_append_own _ rfl (.tmp 10) (.tmp 18) 32 rfl w.heap.size 62 i0 (.int .u32 0) 1 4 Tryd.underlying32 hi hz0 hz1 hz2 rfl (by decide) _ 0 [] rfl hown.out ⟨rb, f * 32, none⟩ (f * 32 + 32 - f * 32) (n * 32 - f * 32) ((rowOf L f).map (Value.int .u32)) rfl (by rw [List.length_map, hlen.out, HE.out]) HN.out H1.out (by rw [HE.out]; decide) (by rw [HE.out]; decide) (by simp; omega) ?_; intro v' w2 ho hg _; have O2 := Lib.hid ho; have B3 := Lib.hid (B2.out.grown hg B2.out.size (fun k hk => by cases hk; exact Nat.le_of_lt hz)); clear ho hg)
  go_ret2
  exact ⟨_, rfl, rowAt_of_owns (by simpa using O2.out) (by intro e; have := hlen.out; rw [e] at this; cases this), B3.out⟩
end Go.Proofs.YtiohnhgoddfebaaDoor
