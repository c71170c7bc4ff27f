/- A space with one entry at many pages; the contract of layer 10's other. Condition: the listed tables read as laid. -/
import Derived.Test.YtkcecfghfohjcaaDoorN28
namespace Go.Proofs.YtkcecfghfohjcaaDoor
open Go.RowKit Go.Maps
set_option maxRecDepth 100000

/-- The space that has an entry at just these pages. -/
def dF (D : List Nat) (e : Ent) : Sp := fun p => if p ∈ D then e else z0
theorem dF_nil (e : Ent) : dF [] e = zF := by funext p; simp [dF, zF]
theorem dF_snoc (D : List Nat) (e : Ent) (p : Nat) : updF (dF D e) p e = dF (D ++ [p]) e := by
  funext q
  unfold updF dF
  by_cases h : q = p
  · subst h; simp
  · simp [h]
theorem dF_cons (D : List Nat) (e : Ent) (p : Nat) (hp : p ∉ D) : updF (dF (p :: D) e) p z0 = dF D e := by
  funext q
  unfold updF dF
  by_cases h : q = p
  · subst h; simp [hp]
  · simp [h]
theorem dF_last (D : List Nat) (e : Ent) (p : Nat) (hp : p ∉ D) : updF (dF (D ++ [p]) e) p z0 = dF D e := by
  funext q
  unfold updF dF
  by_cases h : q = p
  · subst h; simp [hp]
  · simp [h]
theorem dF_in {D : List Nat} {e : Ent} {p : Nat} (h : p ∈ D) : dF D e p = e := by simp [dF, h]
theorem dF_out {D : List Nat} {e : Ent} {p : Nat} (h : p ∉ D) : dF D e p = z0 := by simp [dF, h]
/-- A page more, a page less: tables, and what is left. -/
theorem tabF_needs {F : Sp} {p : Nat} {e : Ent} (hp : p < 1024) (he : e.1 = true) : tabF (updF F p e) = tabF F + (if hasB F (p / 32) = true then 0 else 1) := by
  cases hh : hasB F (p / 32) with
  | true => rw [tabF_stay (by rw [hh]; exact hasB_put F p e he)]; rfl
  | false => rw [tabF_more hp hh he]; rfl
theorem tabF_frees {F : Sp} {p : Nat} (hp : p < 1024) (hf : (F p).1 = true) : tabF F = tabF (updF F p z0) + (if hasB (updF F p z0) (p / 32) = true then 0 else 1) := by
  have hh := hasB_of hf
  cases hx : hasB (updF F p z0) (p / 32) with
  | true => rw [tabF_stay (by rw [hx, hh])]; rfl
  | false => rw [tabF_less hp hh hx]; rfl
theorem clsErr_none {W : Nat → Option Sp} {r : Int} (h : spOf W r = none) : clsErr W r = 4 := by unfold clsErr; rw [h]
set_option maxHeartbeats 1000000 in
theorem other_ok {W0 w : World} {tb sb n m c : Nat} {X : PIx} {W : Nat → Option Sp} (h : Sys W0 w tb sb X n m c W) (hc : 1 ≤ c) (hm : m ≤ 1000) : Calls Tryd.prog 28 #[.pointer (some ⟨tb, 0, none⟩)] w fun e w' => e = .returned (.bool true) ∧ Below W0.heap.size W0 w' := by
  have H := Lib.hid h
  clear h
  go_enter Tryd.func28, Tryd.ntmps28
  go_wp2_with fail
  refine H.out.open_.mono ?_
  rintro e w2 (⟨h0, -, -⟩ | ⟨y, hy, -, -, rfl, hg⟩)
  · omega
  obtain ⟨W1, hW1⟩ : ∃ W1 : Nat → Option Sp, W1 = updW W y (some fun _ => z0) := ⟨_, rfl⟩
  rw [← hW1] at hg
  have S2 := Lib.hid hg.st
  have iy : Hid (I64 (y : Int)) := Lib.hid ⟨by omega, by omega⟩
  have hs : spOf W1 (y : Int) = some zF := by rw [spOf_nat, hW1, updW_same]; rfl
  have hcls : Hid (clsErr W1 (y : Int) = 0) := Lib.hid (by unfold clsErr; rw [hs]; simp only; rw [zF_empty]; rfl)
  have D3 : Hid (clsW W1 (y : Int) = updW W1 y none) := Lib.hid (by unfold clsW; rw [hcls.out, if_pos rfl]; rfl)
  have hno : Hid (clsErr (updW W1 y none) (y : Int) = 4) := Lib.hid (clsErr_none (by rw [spOf_nat, updW_same]))
  have D4 : Hid (clsW (updW W1 y none) (y : Int) = updW W1 y none) := Lib.hid (by unfold clsW; rw [hno.out, if_neg (by decide)])
  have T4 : Hid (tabW (updW W1 y none) (y : Int) = 0) := Lib.hid (by unfold tabW; rw [spOf_nat, updW_same])
  clear hg hs hW1
  go_wp2_with fail
  refine (S2.out.close (y : Int) iy.out).mono ?_
  rw [hcls.out, D3.out]
  rintro e w3 ⟨rfl, hg⟩
  have S3 := Lib.hid hg.st
  clear hg
  go_wp2_with fail
  refine (S3.out.close (y : Int) iy.out).mono ?_
  rw [hno.out, D4.out]
  rintro e w4 ⟨rfl, hg⟩
  have S4 := Lib.hid hg.st
  clear hg
  go_wp2_with (go_at_call 19; refine (S4.out.tables (y : Int) iy.out).mono ?_; rw [T4.out]; rintro e w5 ⟨rfl, hb⟩; have S5 := Lib.hid (S4.out.step hb); clear hb)
  go_ret
  exact ⟨rfl, S5.out.below⟩
end Go.Proofs.YtkcecfghfohjcaaDoor
