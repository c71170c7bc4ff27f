/- The contract of the document's own Page, layer 2. Conditions: its words lie in a block. -/
import Derived.Test.YtiohnhgoddfebaaDoorM12
import Derived.OwnWalk
namespace Go.Proofs.YtiohnhgoddfebaaDoor
open Go.RowKit
set_option maxRecDepth 100000

theorem wordInfo : (Tryd.prog.info? 62).map (fun i => (i.zero, i.size, i.bytes)) = some (some (.int .u32 0), 1, 4) := by kernel_rfl
theorem rowAt_of_owns {w : World} {base n : Nat} {e : TypeId} {v : Value} {L : List Int} (h : w.ownsRow base e 1 v n (L.map (Value.int .u32))) (hn : L ≠ []) : RowAt w v L := by
  obtain ⟨h1, h2⟩ := h
  have hl : n = L.length := by simp at h1; omega
  subst hl
  rcases h2 with ⟨_, h2⟩ | ⟨g, cap, cur, rfl, hb, hg, hc, hm, hs, ht⟩
  · exact absurd (List.length_eq_zero_iff.1 h2) hn
  · refine ⟨_, _, rfl, Or.inr ⟨g, 0, rfl, lt_of_block hg, fun i hi => ?_⟩⟩
    rw [cell_of_row w g _ _ _ _ hg, Nat.zero_add]
    have : (cur.toList.take (L.length * 1))[i]? = (L.map (Value.int .u32))[i]? := by rw [ht]
    rw [List.getElem?_take, if_pos (by omega)] at this
    rw [← Array.getElem?_toList, this]
    simp [hi]

def RPagePost (w : World) (R : List Int) (e : Ending) (w' : World) : Prop := ∃ v, e = .returned (.tuple #[v, .int .i64 0]) ∧ RowAt w' v R ∧ Below w.heap.size w w'
set_option maxRecDepth 100000 in
set_option maxHeartbeats 800000 in
theorem rpage_yes (rp rb n f : Nat) (L : List Int) (w : World) (hr : RefSt w rp rb n L) (hf : f < n) :
    Calls Tryd.prog 16 #[.agg #[.slice (some ⟨rb, 0, none⟩) (n * 32) (n * 32)], .int .i64 f] w (RPagePost w (rowOf L f)) := by
  obtain ⟨i0, hi, hz0, hz1, hz2⟩ := info_parts wordInfo
  have B0 := Lib.hid ((Below.refl w.heap.size w).alloc (Nat.le_refl _) (.cells #[.slice (some ⟨rb, 0, none⟩) (n * 32) (n * 32)] 34))
  have R := Lib.hid hr
  have HT := hr.top
  have hlen := Lib.hid (rowOf_length hr.len hf)
  clear hr
  go_enter Tryd.func16, Tryd.ntmps16
  go_wp2_with fail
  refine (rin_yes _ n _ f 0 _ HT (by unfold okFQ; omega)).mono ?_
  rintro e w1 ⟨rfl, hb⟩
  have B1 := Lib.hid (B0.out.trans (hb.mono B0.out.size))
  have cb := cell_of_one (below_block hb (heap_alloc_new w (.cells #[.slice (some ⟨rb, 0, none⟩) (n * 32) (n * 32)] 34)))
  have hlt : f * 32 + 32 ≤ n * 32 := by omega
  have hz : w.heap.size < w1.heap.size := by have := hb.size; simp at this; omega
  have hown := Lib.hid (World.ownsRow_made (e := 62) (size := 1) (base := w.heap.size) w1 #[] 0 (Nat.le_of_lt hz) (by decide) rfl)
  have B2 := Lib.hid (B1.out.alloc (Nat.le_of_lt hz) (.cells #[] 62))
  have R2 := Lib.hid ((R.out.below B1.out).below ((Below.refl _ _).alloc (Nat.le_refl _) (.cells #[] 62)))
  have hnews : ∀ (j : Nat) (u : Value), ((rowOf L f).map (Value.int .u32))[j]? = some u → (w1.alloc (.cells #[] 62)).cell? ((⟨rb, f * 32, none⟩ : Addr).add j) = some u := fun j u hu => by
    rw [Addr.add_mid, cell_of_row _ rb _ _ _ _ R2.out.row]
    exact rowOf_at R2.out.len hf j u hu
  have HN := Lib.hid hnews
  have H1 : Hid (∀ u ∈ (rowOf L f).map (Value.int .u32), u.oneCell' = true) := Lib.hid (fun u hu => by obtain ⟨x, _, rfl⟩ := List.mem_map.1 hu; rfl)
  have HE : Hid (f * 32 + 32 - f * 32 = 32) := Lib.hid (by omega)
  clear hb hnews
  go_wp2_with (at_builtin; refine wpList_append_own _ rfl (.tmp 10) (.tmp 18) 32 rfl w.heap.size 62 i0 (.int .u32 0) 1 4 Tryd.underlying32 hi hz0 hz1 hz2 rfl (by decide) _ 0 [] rfl hown.out ⟨rb, f * 32, none⟩ (f * 32 + 32 - f * 32) (n * 32 - f * 32) ((rowOf L f).map (Value.int .u32)) rfl (by rw [List.length_map, hlen.out, HE.out]) HN.out H1.out (by rw [HE.out]; decide) (by rw [HE.out]; decide) (by simp; omega) ?_; intro v' w2 ho hg _; have O2 := Lib.hid ho; have B3 := Lib.hid (B2.out.grown hg B2.out.size (fun k hk => by cases hk; exact Nat.le_of_lt hz)); clear ho hg)
  go_ret2
  exact ⟨_, rfl, rowAt_of_owns (by simpa using O2.out) (by intro e; have := hlen.out; rw [e] at this; cases this), B3.out⟩
end Go.Proofs.YtiohnhgoddfebaaDoor
