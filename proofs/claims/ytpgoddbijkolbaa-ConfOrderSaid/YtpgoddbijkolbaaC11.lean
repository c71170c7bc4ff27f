/- The contracts of package conf's read: its closures. Conditions: the reader lies as New laid it. -/
import Derived.Test.YtpgoddbijkolbaaB9
import Derived.Test.YtpgoddbijkolbaaC6
import Derived.Deep.RegionHeld3
namespace Go.Proofs.Ytpgoddbijkolbaa
open Go.RowKit
set_option maxRecDepth 100000

/-- The variable that holds the reader; the variable that holds what reads numbers. -/
def RdV (w : World) (q b : Nat) : Prop := w.heap[q]? = some (.cells #[.pointer (some ⟨b, 0, none⟩)] 90 (0, 0))
def NumR (w : World) (p q : Nat) : Prop := w.heap[p]? = some (.cells #[.func (.func 66) #[] #[.pointer (some ⟨q, 0, none⟩)]] 93 (0, 0))
theorem RdV.c0 {w : World} {q b : Nat} (h : RdV w q b) : w.cell? ⟨q, 0, none⟩ = some (.pointer (some ⟨b, 0, none⟩)) := by rw [cell_of_row w q _ _ _ _ h]; rfl
theorem NumR.c0 {w : World} {p q : Nat} (h : NumR w p q) : w.cell? ⟨p, 0, none⟩ = some (.func (.func 66) #[] #[.pointer (some ⟨q, 0, none⟩)]) := by rw [cell_of_row w p _ _ _ _ h]; rfl
theorem Rd.box {w : World} {b : Nat} {l : List UInt8} (h : Rd w b (some l)) : ∃ u v, w.heap[b]? = some (.cells #[u, v] 106 (0, 0)) := by
  obtain ⟨g, o, c, h⟩ := h
  exact ⟨_, _, h.box⟩
theorem RdV.ne {w : World} {q b : Nat} {l : List UInt8} (h : RdV w q b) (k : Rd w b (some l)) : q ≠ b := by
  intro e
  subst e
  obtain ⟨u, v, hb⟩ := k.box
  unfold RdV at h
  rw [h] at hb
  simp at hb
theorem NumR.ne {w : World} {p q b : Nat} {l : List UInt8} (h : NumR w p q) (k : Rd w b (some l)) : p ≠ b := by
  intro e
  subst e
  obtain ⟨u, v, hb⟩ := k.box
  unfold NumR at h
  rw [h] at hb
  simp at hb
/-- All is as it was but for the reader, and new memory. -/
theorem kept_block {w w' : World} {q b : Nat} {o : Obj} (hg : w.grownBy w' (some b)) (h : w.heap[q]? = some o) (hne : q ≠ b) : w'.heap[q]? = some o := (hg.block q (lt_of_block h) (fun e => hne (Option.some.inj e))).trans h
/-- What reading leaves: a value and what is left, or an error. -/
def ReadPost {α : Type} (val : α → Value) (w : World) (b : Nat) (o : Option (α × List UInt8)) (e : Ending) (w' : World) : Prop :=
  w.grownBy w' (some b) ∧ match o with
    | some (n, r) => e = .returned (val n) ∧ Rd w' b (some r)
    | none => e = badE 6
abbrev numVal (n : Nat) : Value := .int .i64 (n : Int)
theorem rnum_conf (q b k : Nat) (l : List UInt8) (h1 : 1 ≤ k) (h2 : k ≤ 2) (w : World) (h : Rd w b (some l)) (hq : RdV w q b) :
    Calls Try.prog 66 #[.int .i64 (k : Int), .pointer (some ⟨q, 0, none⟩)] w (ReadPost numVal w b (numP k l)) := by
  have q0 := hq.c0
  have hne := hq.ne h
  have HQ := Lib.hid hq
  have H := Lib.hid h
  have hs := numS_numP k h1 (by omega) l
  cases hp : numP k l with
  | none =>
    rw [hp] at hs
    have HS := Lib.hid hs
    clear hs h hq
    go_enter Try.func66, Try.ntmps66
    go_wp2_with fail
    refine (num_ok b (some l) (k : Int) 0 none HS.out w H.out).mono ?_
    rintro e w1 ⟨rfl, hr, hg⟩
    have HR := Lib.hid hr
    have HG := Lib.hid hg
    have q1 := (show RdV w1 q b from kept_block hg HQ.out hne).c0
    clear hr hg q0
    go_wp2_with fail
    refine (fine_ok b none w1 HR.out).mono ?_
    rintro e w2 ⟨rfl, rfl⟩
    rw [show (none : Option (List UInt8)).isSome = false from rfl]
    go_wp2_with fail
    refine (must_no _ _).mono ?_
    rintro e w2 ⟨rfl, rfl⟩
    exact ⟨rfl, HG.out, rfl⟩
  | some p =>
    obtain ⟨n, r⟩ := p
    rw [hp] at hs
    have hn := (numP_some hp).2
    have hn4 : n < 4294967296 := Nat.lt_of_lt_of_le hn (Nat.le_trans (Nat.pow_le_pow_right (by decide) h2) (by decide))
    have HS := Lib.hid hs
    clear hs h hq hn
    go_enter Try.func66, Try.ntmps66
    go_wp2_with fail
    refine (num_ok b (some l) (k : Int) n (some r) HS.out w H.out).mono ?_
    rintro e w1 ⟨rfl, hr, hg⟩
    have HR := Lib.hid hr
    have HG := Lib.hid hg
    have q1 := (show RdV w1 q b from kept_block hg HQ.out hne).c0
    clear hr hg q0
    go_wp2_with fail
    refine (fine_ok b (some r) w1 HR.out).mono ?_
    rintro e w2 ⟨rfl, rfl⟩
    rw [show (some r).isSome = true from rfl]
    go_wp2_with fail
    refine (must_yes _ _).mono ?_
    rintro e w2 ⟨rfl, rfl⟩
    go_wp2
    go_ret
    exact ⟨HG.out, rfl, HR.out⟩
abbrev rowVal (T : Row) : Value := .agg (T.map (Value.int .i64)).toArray
theorem grownBy_setNew {w w' : World} {k i : Nat} {r : Option Nat} (h : w.grownBy w' r) (hk : w.heap.size ≤ k) (v : Value) : w.grownBy (w'.setCell ⟨k, i, none⟩ v) r :=
  ⟨h.os, h.tape, h.output, by simpa [World.setCell] using h.size, fun j hj hne => (Below.heap_setCell _ _ _ _ (fun e => by simp only at e; omega)).trans (h.block j hj hne)⟩
/-- A reader is as it was where another block, that holds no bytes, has changed. -/
theorem Rd.apart {w w' : World} {b : Nat} {k : Option Nat} {s : RdS} (h : Rd w b s) (hx : ∀ g, k = some g → ∃ cs t fz, w.heap[g]? = some (.cells cs t fz) ∧ t ≠ 5) (hg : w.grownBy w' k) (hne : k ≠ some b) : Rd w' b s := by
  have hkeep : ∀ j o, w.heap[j]? = some o → some j ≠ k → w'.heap[j]? = some o := fun j o ho hj => (hg.block j (lt_of_block ho) hj).trans ho
  cases s with
  | none => exact hkeep _ _ h (fun e => hne e.symm)
  | some l =>
    obtain ⟨g, o, c, h⟩ := h
    obtain ⟨cs, fz, hrow⟩ := h.row
    have hgk : some g ≠ k := by
      intro e
      obtain ⟨cs', t, fz', h1, h2⟩ := hx g e.symm
      rw [hrow] at h1
      simp only [Option.some.injEq, Obj.cells.injEq] at h1
      exact h2 h1.2.1.symm
    refine ⟨g, o, c, hkeep _ _ h.box (fun e => hne e.symm), fun i hi => ?_, h.ne, h.cap, h.top, cs, fz, hkeep _ _ hrow hgk⟩
    exact (World.cell?_of_block (w := w) (hg.block g (lt_of_block hrow) hgk)).trans (h.bytes i hi)
end Go.Proofs.Ytpgoddbijkolbaa
