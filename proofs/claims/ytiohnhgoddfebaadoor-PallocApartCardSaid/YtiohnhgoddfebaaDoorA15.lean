/- Two partitions, with and without the first one's calls: what is the same of both. Nothing of a program. -/
import Derived.Test.YtiohnhgoddfebaaDoorA14
namespace Go.Proofs.YtiohnhgoddfebaaDoor
open Go.RowKit
set_option maxRecDepth 100000

def P2 (a b : Nat) : List (Nat × Nat) := [(0, a), (a, b)]
theorem natQ_two (a b : Nat) : natQ [(0, (a : Int)), ((a : Int), (b : Int))] = P2 a b := by simp [natQ, P2]
/-- Of the second one's frames both know the same; of the first one's none is held in the other. -/
structure Agree (a : Nat) (R Q : Nat → Nat) : Prop where
  far : ∀ x, a ≤ x → R x = Q x
  near : ∀ x, x < a → Q x = 0
theorem Agree.start (a : Nat) : Agree a R0 R0 := ⟨fun _ _ => rfl, fun _ _ => rfl⟩
theorem Agree.near_ {a : Nat} {R Q : Nat → Nat} (h : Agree a R Q) (x v : Nat) (hx : x < a) : Agree a (upd R x v) Q := ⟨fun y hy => by rw [upd_other _ _ _ _ (by omega)]; exact h.far y hy, h.near⟩
theorem Agree.both {a : Nat} {R Q : Nat → Nat} (h : Agree a R Q) (x v : Nat) (hx : a ≤ x) : Agree a (upd R x v) (upd Q x v) :=
  ⟨fun y hy => by
    by_cases e : y = x
    · subst e; rw [upd_same, upd_same]
    · rw [upd_other _ _ _ _ e, upd_other _ _ _ _ e]; exact h.far y hy, fun y hy => by rw [upd_other _ _ _ _ (by omega)]; exact h.near y hy⟩
theorem Agree.free1 {a : Nat} {R Q : Nat → Nat} (h : Agree a R Q) (b : Nat) : freeL (a, b) R = freeL (a, b) Q := freeL_same _ _ _ fun x h1 _ => by rw [h.far x h1]
theorem p2_part1 (a b : Nat) : partB (P2 a b) 1 = true := rfl
theorem p2_part0 (a b : Nat) : partB (P2 a b) 0 = true := rfl
theorem p2_get1 (a b : Nat) : (P2 a b).getD (1 : Int).toNat (0, 0) = (a, b) := rfl
theorem p2_get0 (a b : Nat) : (P2 a b).getD (0 : Int).toNat (0, 0) = (0, a) := rfl
theorem Agree.alloc1 {a : Nat} {R Q : Nat → Nat} (h : Agree a R Q) (b : Nat) : allocA (P2 a b) R 1 = allocA (P2 a b) Q 1 ∧ Agree a (allocR (P2 a b) R 1) (allocR (P2 a b) Q 1) := by
  have e := h.free1 b
  cases hF : freeL (a, b) Q with
  | nil =>
    rw [hF] at e
    simp only [allocA, allocR, p2_part1, if_true, p2_get1, e, hF]
    exact ⟨trivial, h⟩
  | cons x r =>
    have hx := (mem_freeL (a, b) Q x).1 (by rw [hF]; simp)
    rw [hF] at e
    simp only [allocA, allocR, p2_part1, if_true, p2_get1, e, hF]
    exact ⟨trivial, h.both x 1 hx.1.1⟩
theorem Agree.allocN {a : Nat} {R Q : Nat → Nat} (h : Agree a R Q) (b : Nat) (x : Int) (hx : x ≠ 1) : Agree a (allocR (P2 a b) R x) Q := by
  unfold allocR
  split
  · rename_i hk
    have hk := (partB_iff _ _).1 hk
    have hl : ((P2 a b).length : Int) = 2 := rfl
    obtain rfl : x = 0 := by omega
    rw [p2_get0]
    cases hF : freeL (0, a) R with
    | nil => exact h
    | cons y r =>
      have hy := (mem_freeL (0, a) R y).1 (by rw [hF]; simp)
      exact h.near_ y 1 (by have := hy.1.2; simp only at this; omega)
  · exact h
theorem Agree.refs {a : Nat} {R Q : Nat → Nat} (h : Agree a R Q) (x : Int) (hx : (a : Int) ≤ x) : refI R x = refI Q x := by
  unfold refI
  rw [if_pos (by omega), if_pos (by omega), h.far x.toNat (by omega)]
theorem Agree.held {a : Nat} {R Q : Nat → Nat} (h : Agree a R Q) (P : List (Nat × Nat)) (x : Int) (hx : (a : Int) ≤ x) : heldE P R x = heldE P Q x := by
  unfold heldE
  rw [h.refs x hx]
theorem Agree.share {a : Nat} {R Q : Nat → Nat} (h : Agree a R Q) (P : List (Nat × Nat)) (x : Int) (hx : (a : Int) ≤ x) : shareE P R x = shareE P Q x ∧ Agree a (shareR P R x) (shareR P Q x) := by
  have e : shareE P R x = shareE P Q x := by unfold shareE; rw [h.held P x hx, h.refs x hx]
  refine ⟨e, ?_⟩
  unfold shareR
  rw [e]
  split
  · rw [h.far x.toNat (by omega)]; exact h.both _ _ (by omega)
  · exact h
theorem Agree.free {a : Nat} {R Q : Nat → Nat} (h : Agree a R Q) (P : List (Nat × Nat)) (x : Int) (hx : (a : Int) ≤ x) : Agree a (freeR P R x) (freeR P Q x) := by
  unfold freeR
  rw [h.held P x hx]
  split
  · rw [h.far x.toNat (by omega)]; exact h.both _ _ (by omega)
  · exact h
theorem Agree.shareN {a n : Nat} {R Q : Nat → Nat} (h : Agree a R Q) {P : List (Nat × Nat)} (hf : FitP n P R) (x : Int) (hx : x < (a : Int)) : Agree a (shareR P R x) Q := by
  unfold shareR
  split
  · rename_i he
    have h0 : heldE P R x = 0 := by
      unfold shareE at he
      split at he
      · assumption
      · exact absurd he (by assumption)
    obtain ⟨y, _, rfl, _⟩ := held_frame hf x h0
    exact h.near_ _ _ (by simp; omega)
  · exact h
theorem Agree.freeN {a n : Nat} {R Q : Nat → Nat} (h : Agree a R Q) {P : List (Nat × Nat)} (hf : FitP n P R) (x : Int) (hx : x < (a : Int)) : Agree a (freeR P R x) Q := by
  unfold freeR
  split
  · rename_i h0
    obtain ⟨y, _, rfl, _⟩ := held_frame hf x h0
    exact h.near_ _ _ (by simp; omega)
  · exact h
theorem Agree.left1 {a : Nat} {R Q : Nat → Nat} (h : Agree a R Q) (b : Nat) : leftA (P2 a b) R 1 = leftA (P2 a b) Q 1 := by
  simp only [leftA, p2_part1, if_true, p2_get1, h.free1 b]
theorem Agree.left0 {a : Nat} {R Q : Nat → Nat} (h : Agree a R Q) (b : Nat) : leftA (P2 a b) Q 0 = a := by
  simp only [leftA, p2_part0, if_true, p2_get0]
  rw [freeL_all _ _ (fun x _ h2 => h.near x (by simp only at h2; omega)), span_length]

/-- What a round keeps: both pools, and the call's box. -/
structure ApartSt (W w : World) (X Y : PIx) (a : Nat) (R Q : Nat → Nat) (bx : Nat) (d x : Int) : Prop where
  pools : ∃ L K, Pools W w X Y L R K Q
  agree : Agree a R Q
  box : w.heap[bx]? = some (.cells #[.int .i64 d, .int .i64 x] 43 (0, 0))
theorem ApartSt.c0 {W w : World} {X Y : PIx} {a : Nat} {R Q : Nat → Nat} {bx : Nat} {d x : Int} (h : ApartSt W w X Y a R Q bx d x) : w.cell? ⟨bx, 0, none⟩ = some (.int .i64 d) := by rw [cell_of_row _ _ _ _ _ _ h.box]; rfl
theorem ApartSt.c1 {W w : World} {X Y : PIx} {a : Nat} {R Q : Nat → Nat} {bx : Nat} {d x : Int} (h : ApartSt W w X Y a R Q bx d x) : w.cell? ⟨bx, 1, none⟩ = some (.int .i64 x) := by rw [cell_of_row _ _ _ _ _ _ h.box]; rfl
theorem ApartSt.step {W w w' : World} {X Y : PIx} {a : Nat} {R Q : Nat → Nat} {bx : Nat} {d x : Int} (h : ApartSt W w X Y a R Q bx d x) (hb : Below w.heap.size w w') : ApartSt W w' X Y a R Q bx d x := by
  obtain ⟨L, K, hp⟩ := h.pools
  exact ⟨⟨L, K, hp.step hb⟩, h.agree, below_block hb h.box⟩
/-- Between the two pools' calls. -/
structure HalfSt (W w : World) (X Y : PIx) (R Q : Nat → Nat) (bx : Nat) (d x : Int) : Prop where
  pools : ∃ L K, Pools W w X Y L R K Q
  box : w.heap[bx]? = some (.cells #[.int .i64 d, .int .i64 x] 43 (0, 0))
theorem HalfSt.c0 {W w : World} {X Y : PIx} {R Q : Nat → Nat} {bx : Nat} {d x : Int} (h : HalfSt W w X Y R Q bx d x) : w.cell? ⟨bx, 0, none⟩ = some (.int .i64 d) := by rw [cell_of_row _ _ _ _ _ _ h.box]; rfl
theorem HalfSt.c1 {W w : World} {X Y : PIx} {R Q : Nat → Nat} {bx : Nat} {d x : Int} (h : HalfSt W w X Y R Q bx d x) : w.cell? ⟨bx, 1, none⟩ = some (.int .i64 x) := by rw [cell_of_row _ _ _ _ _ _ h.box]; rfl
theorem HalfSt.to {W w : World} {X Y : PIx} {a : Nat} {R Q : Nat → Nat} {bx : Nat} {d x : Int} (h : HalfSt W w X Y R Q bx d x) (ha : Agree a R Q) : ApartSt W w X Y a R Q bx d x := ⟨h.pools, ha, h.box⟩
theorem ApartSt.half {W w : World} {X Y : PIx} {a : Nat} {R Q : Nat → Nat} {bx : Nat} {d x : Int} (h : ApartSt W w X Y a R Q bx d x) : HalfSt W w X Y R Q bx d x := ⟨h.pools, h.box⟩
theorem HalfSt.alloc1 {W w : World} {X Y : PIx} {R Q : Nat → Nat} {bx : Nat} {d x : Int} (h : HalfSt W w X Y R Q bx d x) {P : List (Nat × Nat)} (hP : X.P = P) {k u e : Int} (hu : allocA P R k = (u, e)) : Calls Tryd.prog 18 #[.pointer (some ⟨X.pb, 0, none⟩), .int .i64 k] w fun e' w' => e' = .returned (.tuple #[.int .i64 u, .int .i64 e]) ∧ HalfSt W w' X Y (allocR P R k) Q bx d x := by
  subst hP
  obtain ⟨L, K, hp⟩ := h.pools
  refine (alloc_is hu rfl rfl hp.one.st hp.one.table).mono fun _ _ ⟨he, hm⟩ => ⟨he, ⟨_, _, hp.move1 hm⟩, hm.only.kept h.box (fun hb => hp.one.st.other h.box (by decide) (Or.inl hb))⟩
theorem HalfSt.alloc2 {W w : World} {X Y : PIx} {R Q : Nat → Nat} {bx : Nat} {d x : Int} (h : HalfSt W w X Y R Q bx d x) {P : List (Nat × Nat)} (hP : Y.P = P) {k u e : Int} (hu : allocA P Q k = (u, e)) : Calls Tryd.prog 18 #[.pointer (some ⟨Y.pb, 0, none⟩), .int .i64 k] w fun e' w' => e' = .returned (.tuple #[.int .i64 u, .int .i64 e]) ∧ HalfSt W w' X Y R (allocR P Q k) bx d x := by
  subst hP
  obtain ⟨L, K, hp⟩ := h.pools
  refine (alloc_is hu rfl rfl hp.two.st hp.two.table).mono fun _ _ ⟨he, hm⟩ => ⟨he, ⟨_, _, hp.move2 hm⟩, hm.only.kept h.box (fun hb => hp.two.st.other h.box (by decide) (Or.inl hb))⟩
theorem HalfSt.share1 {W w : World} {X Y : PIx} {R Q : Nat → Nat} {bx : Nat} {d x : Int} (h : HalfSt W w X Y R Q bx d x) {P : List (Nat × Nat)} (hP : X.P = P) {k e : Int} (hu : shareE P R k = e) (hk : I64 k) : Calls Tryd.prog 20 #[.pointer (some ⟨X.pb, 0, none⟩), .int .i64 k] w fun e' w' => e' = .returned (.int .i64 e) ∧ HalfSt W w' X Y (shareR P R k) Q bx d x := by
  subst hP
  obtain ⟨L, K, hp⟩ := h.pools
  refine (share_is hu rfl hp.one.st hk).mono fun _ _ ⟨he, hm⟩ => ⟨he, ⟨_, _, hp.move1 hm⟩, hm.only.kept h.box (fun hb => hp.one.st.other h.box (by decide) (Or.inl hb))⟩
theorem HalfSt.share2 {W w : World} {X Y : PIx} {R Q : Nat → Nat} {bx : Nat} {d x : Int} (h : HalfSt W w X Y R Q bx d x) {P : List (Nat × Nat)} (hP : Y.P = P) {k e : Int} (hu : shareE P Q k = e) (hk : I64 k) : Calls Tryd.prog 20 #[.pointer (some ⟨Y.pb, 0, none⟩), .int .i64 k] w fun e' w' => e' = .returned (.int .i64 e) ∧ HalfSt W w' X Y R (shareR P Q k) bx d x := by
  subst hP
  obtain ⟨L, K, hp⟩ := h.pools
  refine (share_is hu rfl hp.two.st hk).mono fun _ _ ⟨he, hm⟩ => ⟨he, ⟨_, _, hp.move2 hm⟩, hm.only.kept h.box (fun hb => hp.two.st.other h.box (by decide) (Or.inl hb))⟩
theorem HalfSt.free1 {W w : World} {X Y : PIx} {R Q : Nat → Nat} {bx : Nat} {d x : Int} (h : HalfSt W w X Y R Q bx d x) {P : List (Nat × Nat)} (hP : X.P = P) {k e : Int} (hu : heldE P R k = e) (hk : I64 k) : Calls Tryd.prog 21 #[.pointer (some ⟨X.pb, 0, none⟩), .int .i64 k] w fun e' w' => e' = .returned (.int .i64 e) ∧ HalfSt W w' X Y (freeR P R k) Q bx d x := by
  subst hP
  obtain ⟨L, K, hp⟩ := h.pools
  refine (free_is hu rfl hp.one.st hk).mono fun _ _ ⟨he, hm⟩ => ⟨he, ⟨_, _, hp.move1 hm⟩, hm.only.kept h.box (fun hb => hp.one.st.other h.box (by decide) (Or.inl hb))⟩
theorem HalfSt.free2 {W w : World} {X Y : PIx} {R Q : Nat → Nat} {bx : Nat} {d x : Int} (h : HalfSt W w X Y R Q bx d x) {P : List (Nat × Nat)} (hP : Y.P = P) {k e : Int} (hu : heldE P Q k = e) (hk : I64 k) : Calls Tryd.prog 21 #[.pointer (some ⟨Y.pb, 0, none⟩), .int .i64 k] w fun e' w' => e' = .returned (.int .i64 e) ∧ HalfSt W w' X Y R (freeR P Q k) bx d x := by
  subst hP
  obtain ⟨L, K, hp⟩ := h.pools
  refine (free_is hu rfl hp.two.st hk).mono fun _ _ ⟨he, hm⟩ => ⟨he, ⟨_, _, hp.move2 hm⟩, hm.only.kept h.box (fun hb => hp.two.st.other h.box (by decide) (Or.inl hb))⟩
theorem ApartSt.left1 {W w : World} {X Y : PIx} {a b : Nat} {R Q : Nat → Nat} {bx : Nat} {d x : Int} (h : ApartSt W w X Y a R Q bx d x) (hP : X.P = P2 a b) {c : Nat} (hc : leftA (P2 a b) Q 1 = c) : Calls Tryd.prog 23 #[.pointer (some ⟨X.pb, 0, none⟩), .int .i64 1] w fun e w' => e = .returned (.int .i64 (c : Int)) ∧ ApartSt W w' X Y a R Q bx d x := by
  obtain ⟨L, K, hp⟩ := h.pools
  exact (left_is (X := X) (by rw [hP, h.agree.left1 b]; exact hc) hp.one.st).mono fun _ _ ⟨he, hb⟩ => ⟨he, h.step hb⟩
theorem ApartSt.left2 {W w : World} {X Y : PIx} {a b : Nat} {R Q : Nat → Nat} {bx : Nat} {d x : Int} (h : ApartSt W w X Y a R Q bx d x) (hP : Y.P = P2 a b) {k : Int} {c : Nat} (hc : leftA (P2 a b) Q k = c) : Calls Tryd.prog 23 #[.pointer (some ⟨Y.pb, 0, none⟩), .int .i64 k] w fun e w' => e = .returned (.int .i64 (c : Int)) ∧ ApartSt W w' X Y a R Q bx d x := by
  obtain ⟨L, K, hp⟩ := h.pools
  exact (left_is (X := Y) (by rw [hP]; exact hc) hp.two.st).mono fun _ _ ⟨he, hb⟩ => ⟨he, h.step hb⟩
theorem ApartSt.start {W w : World} {X Y : PIx} {a : Nat} {L K : List Int} {R Q : Nat → Nat} (h : Pools W w X Y L R K Q) (ha : Agree a R Q) (d x : Int) : ApartSt W (w.alloc (.cells #[.int .i64 d, .int .i64 x] 43)) X Y a R Q w.heap.size d x :=
  ⟨⟨L, K, h.step ((Below.refl _ _).alloc (Nat.le_refl _) _)⟩, ha, heap_alloc_new w _⟩
theorem HalfSt.fit {W w : World} {X Y : PIx} {R Q : Nat → Nat} {bx : Nat} {d x : Int} (h : HalfSt W w X Y R Q bx d x) : FitP X.n X.P R := by
  obtain ⟨L, K, hp⟩ := h.pools
  exact hp.one.st.fit
end Go.Proofs.YtiohnhgoddfebaaDoor
