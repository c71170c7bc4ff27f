/- A pool of a law's own; what the laws' sentinel does. Condition: the library's table reads as its initialiser lays it. -/
import Derived.Test.YtiohnhgoddfebaaDoorA9
namespace Go.Proofs.YtiohnhgoddfebaaDoor
open Go.RowKit
set_option maxRecDepth 100000

/-- A pool of a law's own. -/
structure OwnPool (W w : World) (X : PIx) (L : List Int) (R : Nat → Nat) : Prop where
  st : PoolAt w X L R
  below : Below W.heap.size W w
  new : ∀ k, X.all k → W.heap.size ≤ k
  laid : LaidQ W
theorem OwnPool.move {W w w' : World} {X : PIx} {L L' : List Int} {R R' : Nat → Nat} (h : OwnPool W w X L R) (k : Moves w w' X L' R') : OwnPool W w' X L' R' := ⟨k.st, k.only.old h.below h.below.size (fun j hj => h.new j (Or.inl hj)), h.new, h.laid⟩
theorem OwnPool.step {W w w' : World} {X : PIx} {L : List Int} {R : Nat → Nat} (h : OwnPool W w X L R) (k : Below w.heap.size w w') : OwnPool W w' X L R := ⟨h.st.below k, h.below.trans (k.mono h.below.size), h.new, h.laid⟩
theorem OwnPool.table {W w : World} {X : PIx} {L : List Int} {R : Nat → Nat} (h : OwnPool W w X L R) : LaidQ w := h.laid.below h.below
theorem OwnPool.new_ {W w w' : World} {mp fb n : Nat} {L : List Int} {Q : List (Int × Int)} {e : Ending} (hm : OwnMem W w mp fb n L) (hT : LaidQ W) (h : NewPool mp fb n L Q w e w') (hq : OkQ n Q) :
    ∃ X : PIx, e = .returned (.tuple #[.pointer (some ⟨X.pb, 0, none⟩), .int .i64 0]) ∧ OwnPool W w' X L R0 ∧ X.mp = mp ∧ X.fb = fb ∧ X.n = n ∧ X.P = natQ Q ∧ ∀ k, X.all k → k = mp ∨ k = fb ∨ w.heap.size ≤ k := by
  rcases h with ⟨hno, _⟩ | ⟨_, X, he, hp, h1, h2, h3, h4, h5, hb⟩
  · exact absurd hq hno
  · refine ⟨X, he, ⟨hp, hm.below.trans (hb.mono hm.below.size), fun k hk => ?_, hT⟩, h1, h2, h3, h4, h5⟩
    rcases h5 k hk with e | e | e
    · rw [e]; exact hm.lm
    · rw [e]; exact hm.lf
    · exact Nat.le_trans hm.below.size e
theorem okq_one (n : Nat) (h : 1 ≤ n) : OkQ n [(0, (n : Int))] := by
  refine ⟨by simp, fun i hi => ?_⟩
  have hi : i < 1 := hi
  obtain rfl : i = 0 := by omega
  exact ⟨(isInB_iff _ _ _).2 (by simp [List.getD_eq_getElem?_getD]; omega), fun j hj => by simp [natQ] at hj⟩
theorem okq_two (a b : Nat) (ha : 1 ≤ a) (hb : 1 ≤ b) : OkQ (a + b) [(0, (a : Int)), ((a : Int), (b : Int))] := by
  refine ⟨by simp, fun i hi => ?_⟩
  have hi : i < 2 := hi
  rcases (show i = 0 ∨ i = 1 by omega) with rfl | rfl
  · exact ⟨(isInB_iff _ _ _).2 (by simp [List.getD_eq_getElem?_getD]; omega), fun j hj => by simp [natQ] at hj⟩
  · refine ⟨(isInB_iff _ _ _).2 (by simp [List.getD_eq_getElem?_getD]; omega), fun j hj => ?_⟩
    have hj : j < 1 := hj
    obtain rfl : j = 0 := by omega
    simp [natQ, meetB, List.getD_eq_getElem?_getD]
theorem pairs_one {w w' : World} {x y : Int} {t : TypeId} (h : w'.heap[w.heap.size]? = some (.cells #[.int .i64 x, .int .i64 y] t (0, 0))) : PairsAt w' (.slice (some ⟨w.heap.size, 0, none⟩) 1 1) [(x, y)] := by
  refine ⟨_, _, rfl, Or.inr ⟨_, 0, rfl, lt_of_block h, fun i hi => ?_⟩⟩
  have hi : i < 1 := hi
  obtain rfl : i = 0 := by omega
  rw [cell_of_row _ _ _ _ _ _ h, cell_of_row _ _ _ _ _ _ h]
  exact ⟨rfl, rfl⟩
theorem pairs_two {w w' : World} {x y z u : Int} {t : TypeId} (h : w'.heap[w.heap.size]? = some (.cells #[.int .i64 x, .int .i64 y, .int .i64 z, .int .i64 u] t (0, 0))) : PairsAt w' (.slice (some ⟨w.heap.size, 0, none⟩) 2 2) [(x, y), (z, u)] := by
  refine ⟨_, _, rfl, Or.inr ⟨_, 0, rfl, lt_of_block h, fun i hi => ?_⟩⟩
  have hi : i < 2 := hi
  rcases (show i = 0 ∨ i = 1 by omega) with rfl | rfl
  all_goals
    rw [cell_of_row _ _ _ _ _ _ h, cell_of_row _ _ _ _ _ _ h]
    exact ⟨rfl, rfl⟩
theorem OwnPool.alloc_ {W w : World} {X : PIx} {R R' : Nat → Nat} {L L' : List Int} {P : List (Nat × Nat)} {k a e : Int} (h : OwnPool W w X L R) (hP : X.P = P) (ha : allocA P R k = (a, e)) (hl : allocL P R k L = L') (hr : allocR P R k = R') : Calls Tryd.prog 18 #[.pointer (some ⟨X.pb, 0, none⟩), .int .i64 k] w fun e' w' => e' = .returned (.tuple #[.int .i64 a, .int .i64 e]) ∧ OwnPool W w' X L' R' := by
  subst hP
  exact (alloc_is ha hl hr h.st h.table).mono fun _ _ ⟨he, hm⟩ => ⟨he, h.move hm⟩
theorem OwnPool.share_ {W w : World} {X : PIx} {R R' : Nat → Nat} {L : List Int} {P : List (Nat × Nat)} {x e : Int} (h : OwnPool W w X L R) (hP : X.P = P) (he : shareE P R x = e) (hr : shareR P R x = R') (hx : I64 x) : Calls Tryd.prog 20 #[.pointer (some ⟨X.pb, 0, none⟩), .int .i64 x] w fun e' w' => e' = .returned (.int .i64 e) ∧ OwnPool W w' X L R' := by
  subst hP
  exact (share_is he hr h.st hx).mono fun _ _ ⟨he, hm⟩ => ⟨he, h.move hm⟩
theorem OwnPool.free_ {W w : World} {X : PIx} {R R' : Nat → Nat} {L : List Int} {P : List (Nat × Nat)} {x e : Int} (h : OwnPool W w X L R) (hP : X.P = P) (he : heldE P R x = e) (hr : freeR P R x = R') (hx : I64 x) : Calls Tryd.prog 21 #[.pointer (some ⟨X.pb, 0, none⟩), .int .i64 x] w fun e' w' => e' = .returned (.int .i64 e) ∧ OwnPool W w' X L R' := by
  subst hP
  exact (free_is he hr h.st hx).mono fun _ _ ⟨he, hm⟩ => ⟨he, h.move hm⟩
theorem OwnPool.refs_ {W w : World} {X : PIx} {R : Nat → Nat} {L : List Int} {x c : Int} (h : OwnPool W w X L R) (hc : refI R x = c) (hx : I64 x) : Calls Tryd.prog 22 #[.pointer (some ⟨X.pb, 0, none⟩), .int .i64 x] w fun e w' => e = .returned (.int .i64 c) ∧ w = w' := refs_is hc h.st hx
theorem OwnPool.left_ {W w : World} {X : PIx} {R : Nat → Nat} {L : List Int} {P : List (Nat × Nat)} {k : Int} {c : Nat} (h : OwnPool W w X L R) (hP : X.P = P) (hc : leftA P R k = c) : Calls Tryd.prog 23 #[.pointer (some ⟨X.pb, 0, none⟩), .int .i64 k] w fun e w' => e = .returned (.int .i64 (c : Int)) ∧ OwnPool W w' X L R := by
  subst hP
  exact (left_is hc h.st).mono fun _ _ ⟨he, hm⟩ => ⟨he, h.step hm⟩

def aP : List (Nat × Nat) := [(0, 2), (2, 1)]
def aR1 : Nat → Nat := upd R0 0 1
def aR2 : Nat → Nat := upd aR1 1 1
def aR3 : Nat → Nat := upd aR2 2 1
def aR4 : Nat → Nat := upd aR3 1 2
def aR5 : Nat → Nat := upd aR4 1 1
set_option maxHeartbeats 2000000 in
theorem awake9 (w : World) (hT : LaidQ w) : Calls Tryd.prog 10 #[] w fun e w' => e = .returned (.bool true) ∧ Below w.heap.size w w' := by
  have HT := Lib.hid hT
  clear hT
  go_enter Tryd.func10, Tryd.ntmps10
  go_wp2_with fail
  refine (new_ok 3 w (by decide) (by decide)).mono ?_
  rintro e w1 hp
  obtain ⟨mp, fb, rfl, ho⟩ := OwnMem.new hp
  have M1 := Lib.hid ho
  clear hp ho
  go_wp2_with fail
  have M2 := Lib.hid (M1.out.step ((Below.refl _ _).alloc (Nat.le_refl _) (.cells #[.int .i64 0, .int .i64 2, .int .i64 2, .int .i64 1] 59)))
  refine (newpool_any mp fb 3 _ [(0, 2), (2, 1)] _ _ M2.out.st (pairs_two (heap_alloc_new w1 _))).mono ?_
  rintro e w2 hp
  obtain ⟨X, rfl, ho, _, _, _, hP, _⟩ := OwnPool.new_ M2.out HT.out hp (okq_two 2 1 (by decide) (by decide))
  have O := Lib.hid ho
  have HP := Lib.hid (show X.P = aP from hP)
  clear hp ho hP
  go_wp2_with fail
  refine (O.out.alloc_ (R' := aR1) HP.out (show allocA aP R0 0 = (0, 0) by decide) rfl rfl).mono ?_
  rintro e w3 ⟨rfl, ho⟩
  have O := Lib.hid ho
  clear ho
  go_wp2_with fail
  refine (O.out.alloc_ (R' := aR2) HP.out (show allocA aP aR1 0 = (1, 0) by decide) rfl rfl).mono ?_
  rintro e w4 ⟨rfl, ho⟩
  have O := Lib.hid ho
  clear ho
  go_wp2_with fail
  refine (O.out.alloc_ (R' := aR2) HP.out (show allocA aP aR2 0 = (0, 3) by decide) rfl rfl).mono ?_
  rintro e w5 ⟨rfl, ho⟩
  have O := Lib.hid ho
  clear ho
  go_wp2_with fail
  refine (O.out.alloc_ (R' := aR3) HP.out (show allocA aP aR2 1 = (2, 0) by decide) rfl rfl).mono ?_
  rintro e w6 ⟨rfl, ho⟩
  have O := Lib.hid ho
  clear ho
  go_wp2_with fail
  refine (O.out.share_ (R' := aR4) HP.out (show shareE aP aR3 1 = 0 by decide) rfl (by decide)).mono ?_
  rintro e w7 ⟨rfl, ho⟩
  have O := Lib.hid ho
  clear ho
  go_wp2_with fail
  refine (O.out.free_ (R' := aR5) HP.out (show heldE aP aR4 1 = 0 by decide) rfl (by decide)).mono ?_
  rintro e w8 ⟨rfl, ho⟩
  have O := Lib.hid ho
  clear ho
  go_wp2_with fail
  refine (O.out.refs_ (show refI aR5 1 = 1 by decide) (by decide)).mono ?_
  rintro e w9 ⟨rfl, rfl⟩
  go_wp2
  go_ret
  exact ⟨rfl, O.out.below⟩
end Go.Proofs.YtiohnhgoddfebaaDoor
