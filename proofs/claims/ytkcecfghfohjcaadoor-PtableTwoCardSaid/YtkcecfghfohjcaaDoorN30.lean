/- The law PtableBack: its walk. Condition: the listed tables read as laid. -/
import Derived.Test.YtkcecfghfohjcaaDoorN29
import Derived.Test.YtkcecfghfohjcaaDoorGON
namespace Go.Proofs.YtkcecfghfohjcaaDoor
open Go.RowKit Go.Maps
set_option maxRecDepth 100000

/-- The law's system, with the entry's box and the row of pages that are mapped. -/
structure BackSt (W0 W V : World) (tb sb : Nat) (X : PIx) (r : Nat) (bx base : Nat) (p x k : Bool) (g : Int) (v : Value) (D E : List Nat) : Prop where
  st : ∃ c, FullSt W0 V tb sb X 62 60 c (updW (fun _ => none) r (some (dF E (p, x, k, g)))) bx p x k g ∧ c + tabF (dF E (p, x, k, g)) = 60
  row : V.ownsRow base 3 1 v D.length (natsV D)
  size : base ≤ V.heap.size
  bel : Below W.heap.size W V
  nodup : D.Nodup
  low : ∀ q ∈ D, q < 1024
  fits : D = [] ∨ fitsE 62 (p, x, k, g)
theorem row_gone {W0 w w' : World} {tb sb n m c c' base k q : Nat} {X : PIx} {W W' : Nat → Option Sp} {e : TypeId} {v : Value} {xs : List Value} (h : Sys W0 w tb sb X n m c W) (hg : Gone W0 w w' tb sb X n m c' W') (ho : w.ownsRow base e k v q xs) (ht : e ≠ 162 ∧ e ≠ 129 ∧ e ≠ 121 ∧ e ≠ 117 ∧ e ≠ 89) : w'.ownsRow base e k v q xs :=
  ownsRow_only ho hg.only fun g hg' => by obtain ⟨cs, hcs⟩ := own_block ho hg'; exact h.other hcs ht
theorem row_apart {W0 w w' : World} {tb sb n m c base k q : Nat} {X : PIx} {W : Nat → Option Sp} {e : TypeId} {v : Value} {xs : List Value} {bx : Nat} {p x kk : Bool} {g : Int} (h : FullSt W0 w tb sb X n m c W bx p x kk g) (ho : w.ownsRow base e k v q xs) (hg : w.grownBy w' v.ownBlock) (hW : W0.heap.size ≤ base) (he : e ≠ 37) (hm : e ≠ 55) (ht : e ≠ 162 ∧ e ≠ 129 ∧ e ≠ 121 ∧ e ≠ 117 ∧ e ≠ 89) : FullSt W0 w' tb sb X n m c W bx p x kk g := by
  obtain ⟨L, R, S, O, k1, k2, k3⟩ := h.sys.ex
  have hap := k1.own.st.rowApart ho ht
  have ho' : Only w w' (fun k => v.ownBlock = some k) := Only.grownTo hg (fun _ e => e)
  refine ⟨⟨⟨L, R, S, O, ⟨⟨k1.own.st.kept ho' (fun j hj e => hap j e hj), ho'.old k1.own.below k1.own.below.size (fun j e => Nat.le_trans hW (own_ge ho e)), k1.own.new, k1.own.laid⟩, k1.lw, k1.wd, ho'.kept k1.box (fun e => own_kind ho e k1.box hm rfl), k1.spc.same (ho'.block _ k1.spc.lt (fun e => ?_)), k1.nt, k1.ns, k1.ne, k1.low⟩, k2, k3⟩, h.sys.hn, h.sys.hP⟩, ho'.kept h.box (fun e => own_kind ho e (show w.heap[bx]? = some (.cells #[.bool p, .bool x, .bool kk, .int .i64 g] 37 (0, 0)) from h.box) he rfl)⟩
  obtain ⟨es, ck, hmp⟩ := k1.spc.isMap
  obtain ⟨cs, hcs⟩ := own_block ho e
  rw [hmp] at hcs; cases hcs
theorem BackSt.step {W0 W V V' : World} {tb sb r bx base : Nat} {X : PIx} {p x k : Bool} {g : Int} {v : Value} {D E : List Nat} (h : BackSt W0 W V tb sb X r bx base p x k g v D E) (hb : Below V.heap.size V V') : BackSt W0 W V' tb sb X r bx base p x k g v D E := by
  obtain ⟨c, h1, h2⟩ := h.st
  exact ⟨⟨c, h1.step hb, h2⟩, own_step h.row hb, Nat.le_trans h.size hb.size, h.bel.trans (hb.mono h.bel.size), h.nodup, h.low, h.fits⟩
/-- A page is mapped: what the law's state is then. -/
theorem BackSt.mapped {W0 W V V' : World} {tb sb r bx base c : Nat} {X : PIx} {p x k : Bool} {g pg : Int} {v : Value} {D : List Nat} (h : BackSt W0 W V tb sb X r bx base p x k g v D D) (h1 : FullSt W0 V tb sb X 62 60 c (updW (fun _ => none) r (some (dF D (p, x, k, g)))) bx p x k g) (h2 : c + tabF (dF D (p, x, k, g)) = 60) (hW : Below W.heap.size W W0)
    (hg : Gone W0 V V' tb sb X 62 60 (mapC 62 c (updW (fun _ => none) r (some (dF D (p, x, k, g)))) (r : Int) pg (p, x, k, g)) (mapW 62 c (updW (fun _ => none) r (some (dF D (p, x, k, g)))) (r : Int) pg (p, x, k, g))) :
    (mapErr 62 (updW (fun _ => none) r (some (dF D (p, x, k, g)))) c (r : Int) pg (p, x, k, g) ≠ 0 → BackSt W0 W V' tb sb X r bx base p x k g v D D) ∧
    (mapErr 62 (updW (fun _ => none) r (some (dF D (p, x, k, g)))) c (r : Int) pg (p, x, k, g) = 0 → ∃ q : Nat, pg = (q : Int) ∧ q < 1024 ∧ q ∉ D ∧ fitsE 62 (p, x, k, g) ∧ ∃ c', FullSt W0 V' tb sb X 62 60 c' (updW (fun _ => none) r (some (dF (D ++ [q]) (p, x, k, g)))) bx p x k g ∧ c' + tabF (dF (D ++ [q]) (p, x, k, g)) = 60) := by
  have hbel : Below W.heap.size W V' := hW.trans (hg.st.below.mono hW.size)
  have hrow := row_gone h1.sys hg h.row ⟨by decide, by decide, by decide, by decide, by decide⟩
  have hsz := Nat.le_trans h.size hg.only.size
  have hS := h1.gone hg
  have hsp : spOf (updW (fun _ => none) r (some (dF D (p, x, k, g)))) (r : Int) = some (dF D (p, x, k, g)) := by rw [spOf_nat, updW_same]
  constructor
  · intro hne
    unfold mapC mapW at hS
    rw [if_neg hne, if_neg hne] at hS
    exact ⟨⟨c, hS, h2⟩, hrow, hsz, hbel, h.nodup, h.low, h.fits⟩
  · intro h0
    have h0' := h0
    by_cases hin : (0 ≤ pg ∧ pg < 1024) ∧ fitV 62 (p, x, k, g) = true
    · obtain ⟨⟨i0, i1⟩, hf⟩ := hin
      obtain ⟨q, rfl⟩ := Int.eq_ofNat_of_zero_le i0
      have hq : q < 1024 := by omega
      have he := (fitV_iff 62 _).1 hf
      rw [mapErr_in hsp hq, hf, if_pos rfl] at h0
      have hqD : q ∉ D := fun hm => by rw [dF_in hm, if_pos he.1] at h0; cases h0
      have hne3 : ¬ (hasB (dF D (p, x, k, g)) (q / 32) = false ∧ c = 0) := fun hh => by
        rw [dF_out hqD, if_neg (by simp [z0]), if_pos hh] at h0; cases h0
      unfold mapC mapW at hS
      rw [if_pos h0', if_pos h0', putW_in hsp, needs_in hsp, dF_snoc] at hS
      refine ⟨q, rfl, hq, hqD, he, c - (if hasB (dF D (p, x, k, g)) (q / 32) = true then 0 else 1), ?_, ?_⟩
      · have e2 : updW (updW (fun _ => none) r (some (dF D (p, x, k, g)))) r (some (dF (D ++ [q]) (p, x, k, g))) = updW (fun _ => none) r (some (dF (D ++ [q]) (p, x, k, g))) := by
          funext y; by_cases hy : y = r <;> simp [updW, hy]
        rw [e2] at hS
        exact hS
      · have ht := tabF_needs (F := dF D (p, x, k, g)) (p := q) (e := (p, x, k, g)) hq he.1
        rw [dF_snoc] at ht
        cases hh : hasB (dF D (p, x, k, g)) (q / 32) with
        | true => rw [hh] at ht; simp only [if_true] at ht ⊢; omega
        | false =>
          have hc : c ≠ 0 := fun hc => hne3 ⟨hh, hc⟩
          rw [hh] at ht; simp only [Bool.false_eq_true, if_false] at ht ⊢; omega
    · rw [mapErr_arg hin] at h0; cases h0
end Go.Proofs.YtkcecfghfohjcaaDoor
