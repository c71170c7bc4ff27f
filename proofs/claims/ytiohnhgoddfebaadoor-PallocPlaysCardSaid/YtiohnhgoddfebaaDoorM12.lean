/- The contracts of the document's own answers for layer 2: Zero, Copy, Page. Conditions: its words lie in a block. -/
import Derived.Test.YtiohnhgoddfebaaDoorM11
import Derived.Outline
import Derived.IntWalk
namespace Go.Proofs.YtiohnhgoddfebaaDoor
open Go.RowKit
set_option maxRecDepth 100000

theorem ext_getD {A B : List Int} (hl : A.length = B.length) (h : ∀ j, j < A.length → A.getD j 0 = B.getD j 0) : A = B := by
  apply List.ext_getElem hl
  intro i h1 h2
  have := h i h1
  simpa [List.getD_eq_getElem?_getD, h1, h2] using this
theorem putRow_ext {L K R : List Int} {n t : Nat} (hl : L.length = n * 32) (hk : K.length = n * 32) (ht : t < n) (hR : R.length = 32) (h : ∀ j, j < n * 32 → K.getD j 0 = if t * 32 ≤ j ∧ j < t * 32 + 32 then R.getD (j - t * 32) 0 else L.getD j 0) : K = putRow L t R := by
  refine ext_getD (by rw [hk, putRow_length hl ht hR]) fun j hj => ?_
  rw [hk] at hj
  have e : j = j / 32 * 32 + j % 32 := by omega
  rw [h j hj]
  conv => rhs; rw [e]
  rw [getD_putRow hl ht hR (Nat.mod_lt _ (by decide)), ← e]
  by_cases h1 : t = j / 32
  · rw [if_pos h1, if_pos (by omega)]
    congr 1
    omega
  · rw [if_neg h1, if_neg (by omega)]

set_option maxRecDepth 100000 in
set_option maxHeartbeats 400000 in
theorem rzero_no (rp rb n : Nat) (L : List Int) (f : Int) (w : World) (hr : RefSt w rp rb n L) (h : ¬ okFQ n f 0) :
    Calls Tryd.prog 52 #[.pointer (some ⟨rp, 0, none⟩), .int .i64 f] w fun e w' => e = .returned (.int .i64 2) ∧ Below w.heap.size w w' := by
  have R := Lib.hid hr
  have cb := hr.cellB
  have H := Lib.hid h
  clear h hr
  go_enter Tryd.func52, Tryd.ntmps52
  go_wp2_with fail
  refine (rin_no _ n _ f 0 _ R.out.top H.out).mono ?_
  rintro e w1 ⟨rfl, hb⟩
  have B1 := Lib.hid hb
  clear hb
  go_wp2
  go_ret
  exact ⟨rfl, B1.out⟩

def RZeroRel (w : World) (rp rb n f : Nat) (L : List Int) (i : Value) (wr : World) : Prop := ∃ (k : Nat) (K : List Int), i = .int .i64 k ∧ k ≤ 32 ∧ RPuts w wr rp rb n K ∧ ∀ j, K.getD j 0 = if f * 32 ≤ j ∧ j < f * 32 + k then 0 else L.getD j 0
set_option maxRecDepth 100000 in
set_option maxHeartbeats 1000000 in
theorem rzero_yes (rp rb n f : Nat) (L : List Int) (w : World) (hr : RefSt w rp rb n L) (hf : f < n) :
    Calls Tryd.prog 52 #[.pointer (some ⟨rp, 0, none⟩), .int .i64 f] w fun e w' => e = .returned (.int .i64 0) ∧ RPuts w w' rp rb n (putRow L f zeros) := by
  have R := Lib.hid hr
  have HT := hr.top
  have cb0 := hr.cellB
  clear hr
  go_enter Tryd.func52, Tryd.ntmps52
  go_wp2_with fail
  refine (rin_yes _ n _ f 0 _ HT (by unfold okFQ; omega)).mono ?_
  rintro e w1 ⟨rfl, hb⟩
  clear cb0
  have R1 := Lib.hid (RPuts.stay R.out hb)
  clear hb
  go_wp2_with fail
  go_loopw [5] (fun i wr => RZeroRel w rp rb n f L i wr) (fun i _ => (32 - (intOf i).toNat))
  case atStart => exact ⟨0, L, rfl, by omega, R1.out, fun j => by rw [if_neg (by omega)]⟩
  case round =>
    obtain ⟨k, K, rfl, hk, hp, hK⟩ := hrel
    have P := Lib.hid hp
    have HK := Lib.hid hK
    clear hp hK
    by_cases hlt : k < 32
    · have cb := P.out.st.cellB
      have cw := P.out.st.cellR (i := f * 32 + k) (by omega)
      have cf := P.out.st.freeR (f * 32 + k)
      have hlt2 : f * 32 + k < n * 32 := by omega
      go_wp2
      go_roundw
      case rel =>
        refine ⟨k + 1, _, by go_num, by omega, P.out.next (P.out.st.set (f * 32 + k) 0), fun j => ?_⟩
        rw [getD_set _ _ _ _ (by rw [P.out.st.len]; omega), HK.out j]
        by_cases h1 : f * 32 + k = j
        · rw [if_pos h1, if_pos (by omega)]
        · rw [if_neg h1]
          by_cases h2 : f * 32 ≤ j ∧ j < f * 32 + k
          · rw [if_pos h2, if_pos (by omega)]
          · rw [if_neg h2, if_neg (by omega)]
      case measure => simp [intOf]; omega
    · obtain rfl : k = 32 := by omega
      have e : K = putRow L f zeros := putRow_ext R.out.len P.out.st.len hf rfl (fun j _ => by rw [HK.out j, zeros_get])
      have E := Lib.hid e
      clear e
      go_wp2
      go_ret
      exact ⟨rfl, by rw [← E.out]; exact P.out⟩

def RCopyRel (w : World) (rp rb n t f : Nat) (L : List Int) (i : Value) (wr : World) : Prop := ∃ (k : Nat) (K : List Int), i = .int .i64 k ∧ k ≤ 32 ∧ RPuts w wr rp rb n K ∧ ∀ j, K.getD j 0 = if t * 32 ≤ j ∧ j < t * 32 + k then L.getD (f * 32 + (j - t * 32)) 0 else L.getD j 0
theorem RPuts.drew {w w' : World} {rp rb n : Nat} {L : List Int} (h : RPuts w w' rp rb n L) : RPuts w w'.drew rp rb n L := ⟨⟨h.st.box, h.st.row, h.st.len, h.st.ne, h.st.top⟩, grownBy_heap h.grown rfl rfl rfl rfl⟩
set_option maxRecDepth 100000 in
set_option maxHeartbeats 400000 in
theorem rpage_no (a : Option Addr) (n c : Nat) (f : Int) (w : World) (hn : n ≤ 1024) (h : ¬ okFQ n f 0) :
    Calls Tryd.prog 16 #[.agg #[.slice a (n * 32) c], .int .i64 f] w fun e w' => e = .returned (.tuple #[.slice none 0 0, .int .i64 2]) ∧ Below w.heap.size w w' := by
  have B0 := Lib.hid ((Below.refl w.heap.size w).alloc (Nat.le_refl _) (.cells #[.slice a (n * 32) c] 34))
  have H := Lib.hid h
  clear h
  go_enter Tryd.func16, Tryd.ntmps16
  go_wp2_with fail
  refine (rin_no a n c f 0 _ hn H.out).mono ?_
  rintro e w1 ⟨rfl, hb⟩
  have B1 := Lib.hid (B0.out.trans (hb.mono B0.out.size))
  clear hb
  go_wp2
  go_ret2
  exact ⟨rfl, B1.out⟩
end Go.Proofs.YtiohnhgoddfebaaDoor
