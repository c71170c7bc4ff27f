/- The program's pool beside the document's own; the contract of the law's play. Conditions: both lie as their New lays them, and have been asked the same. -/
import Derived.Test.YtiohnhgoddfebaaDoorA23
import Derived.Test.YtiohnhgoddfebaaDoorA17
namespace Go.Proofs.YtiohnhgoddfebaaDoor
open Go.RowKit
set_option maxRecDepth 100000

theorem PairsAt.only {w w' : World} {v : Value} {Q : List (Int × Int)} {B : Nat → Prop} (h : PairsAt w v Q) (hg : Only w w' B) (hr : ∀ b, v.ownBlock = some b → ¬ B b) : PairsAt w' v Q := by
  obtain ⟨a, c, rfl, h | ⟨b, o, rfl, hlt, hc⟩⟩ := h
  · exact ⟨a, c, rfl, Or.inl h⟩
  · have e : ∀ j, w'.cell? ⟨b, j, none⟩ = w.cell? ⟨b, j, none⟩ := fun j => World.cell?_of_block (a := ⟨b, j, none⟩) (hg.block b hlt (hr b rfl))
    exact ⟨_, c, rfl, Or.inr ⟨b, o, rfl, Nat.lt_of_lt_of_le hlt hg.size, fun i hi => by rw [e, e]; exact hc i hi⟩⟩
theorem RPoolAt.keptBy {w w' : World} {Z : ZIx} {L : List Int} {R : Nat → Nat} {B : Nat → Prop} (h : RPoolAt w Z L R) (k : Only w w' B) (h1 : ¬ B Z.rp) (h2 : ¬ B Z.rb) (h3 : ¬ B Z.qb) (hv : ∀ b, Z.v.ownBlock = some b → ¬ B b) : RPoolAt w' Z L R :=
  ⟨k.kept h.box h1, k.kept h.words h2, h.len, k.kept h.refs h3, h.rng.only k hv, h.lv, h.l1, h.l2, h.fit⟩
/-- Both pools. -/
structure Both (W w : World) (X : PIx) (Z : ZIx) (L : List Int) (R : Nat → Nat) (K : List Int) (Q : Nat → Nat) : Prop where
  own : OwnPool W w X L R
  ref : RPoolAt w Z K Q
  base : Z.base = W.heap.size
theorem Both.step {W w w' : World} {X : PIx} {Z : ZIx} {L K : List Int} {R Q : Nat → Nat} (h : Both W w X Z L R K Q) (hb : Below w.heap.size w w') : Both W w' X Z L R K Q := ⟨h.own.step hb, h.ref.below hb, h.base⟩
theorem Both.move1 {W w w' : World} {X : PIx} {Z : ZIx} {L L' K : List Int} {R R' Q : Nat → Nat} (h : Both W w X Z L R K Q) (k : Moves w w' X L' R') : Both W w' X Z L' R' K Q :=
  ⟨h.own.move k, h.ref.keptBy k.only (fun e => h.own.st.other h.ref.box (by decide) (Or.inl e)) (fun e => h.own.st.other h.ref.words (by decide) (Or.inl e)) (fun e => h.own.st.other h.ref.refs (by decide) (Or.inl e)) (fun b hb e => by
    have := h.own.new b (Or.inl e)
    have := h.ref.lv b hb
    have := h.base
    omega), h.base⟩
theorem Both.move2 {W w w' : World} {X : PIx} {Z : ZIx} {L K K' : List Int} {R Q Q' : Nat → Nat} (h : Both W w X Z L R K Q) (k : RMoves w w' Z K' Q') : Both W w' X Z L R K' Q' :=
  ⟨⟨h.own.st.kept k.only (fun j hj e => by
      rcases e with e | e
      · subst e; exact h.own.st.other h.ref.words (by decide) hj
      · subst e; exact h.own.st.other h.ref.refs (by decide) hj),
    k.only.old h.own.below h.own.below.size (fun j e => by
      have := h.ref.l1
      have := h.ref.l2
      have := h.base
      omega), h.own.new, h.own.laid⟩, k.st, h.base⟩
/-- Both pools, and the call's box. -/
structure PlaySt (W w : World) (X : PIx) (Z : ZIx) (L : List Int) (R : Nat → Nat) (K : List Int) (Q : Nat → Nat) (bx : Nat) (d x : Int) : Prop where
  both : Both W w X Z L R K Q
  box : w.heap[bx]? = some (.cells #[.int .i64 d, .int .i64 x] 43 (0, 0))
theorem PlaySt.start {W w : World} {X : PIx} {Z : ZIx} {L K : List Int} {R Q : Nat → Nat} (h : Both W w X Z L R K Q) (d x : Int) : PlaySt W (w.alloc (.cells #[.int .i64 d, .int .i64 x] 43)) X Z L R K Q w.heap.size d x :=
  ⟨h.step ((Below.refl _ _).alloc (Nat.le_refl _) _), heap_alloc_new w _⟩
theorem PlaySt.step {W w w' : World} {X : PIx} {Z : ZIx} {L K : List Int} {R Q : Nat → Nat} {bx : Nat} {d x : Int} (h : PlaySt W w X Z L R K Q bx d x) (hb : Below w.heap.size w w') : PlaySt W w' X Z L R K Q bx d x := ⟨h.both.step hb, below_block hb h.box⟩
theorem PlaySt.move1 {W w w' : World} {X : PIx} {Z : ZIx} {L L' K : List Int} {R R' Q : Nat → Nat} {bx : Nat} {d x : Int} (h : PlaySt W w X Z L R K Q bx d x) (k : Moves w w' X L' R') : PlaySt W w' X Z L' R' K Q bx d x :=
  ⟨h.both.move1 k, k.only.kept h.box (fun e => h.both.own.st.other h.box (by decide) (Or.inl e))⟩
theorem PlaySt.move2 {W w w' : World} {X : PIx} {Z : ZIx} {L K K' : List Int} {R Q Q' : Nat → Nat} {bx : Nat} {d x : Int} (h : PlaySt W w X Z L R K Q bx d x) (k : RMoves w w' Z K' Q') : PlaySt W w' X Z L R K' Q' bx d x :=
  ⟨h.both.move2 k, k.only.kept h.box (fun e => by
    rcases e with e | e
    · exact kind_ne h.box h.both.ref.words (by simp [kindOf]) e
    · exact kind_ne h.box h.both.ref.refs (by simp [kindOf]) e)⟩
theorem PlaySt.b0 {W w : World} {X : PIx} {Z : ZIx} {L K : List Int} {R Q : Nat → Nat} {bx : Nat} {d x : Int} (h : PlaySt W w X Z L R K Q bx d x) : w.cell? ⟨bx, 0, none⟩ = some (.int .i64 d) := by rw [cell_of_row _ _ _ _ _ _ h.box]; rfl
theorem PlaySt.b1 {W w : World} {X : PIx} {Z : ZIx} {L K : List Int} {R Q : Nat → Nat} {bx : Nat} {d x : Int} (h : PlaySt W w X Z L R K Q bx d x) : w.cell? ⟨bx, 1, none⟩ = some (.int .i64 x) := by rw [cell_of_row _ _ _ _ _ _ h.box]; rfl
/-- What the memory holds, when the program's word is written, and when the document's is. -/
def writeL (n : Nat) (x v : Int) (L : List Int) : List Int := if 0 ≤ x ∧ x < n then L.set (x.toNat * 32 + 5) v else L
theorem PlaySt.write1 {W w : World} {X : PIx} {Z : ZIx} {L K : List Int} {R Q : Nat → Nat} {bx : Nat} {d x : Int} (h : PlaySt W w X Z L R K Q bx d x) (v : Int) : Calls Tryd.prog 24 #[.pointer (some ⟨X.mp, 0, none⟩), .int .i64 x, .int .i64 5, .int .u32 v] w fun e w' => ∃ k, e = .returned (.int .i64 k) ∧ PlaySt W w' X Z (writeL X.n x v L) R K Q bx d x := by
  by_cases hok : okFQ X.n x 5
  · have e : writeL X.n x v L = L.set (idx x 5) v := by unfold okFQ at hok; rw [writeL, if_pos ⟨hok.1, hok.2.1⟩]; rfl
    rw [e]
    exact (write_i X.mp X.fb X.n L x 5 v w h.both.own.st.mem hok).mono fun _ _ ⟨he, hp⟩ => ⟨_, he, h.move1 ⟨(h.both.own.st.toG.mem_ hp).toAt h.both.own.st.fit (fun _ _ => rfl), Only.grown hp.grown (Or.inl rfl)⟩⟩
  · have e : writeL X.n x v L = L := by rw [writeL, if_neg (fun a => hok ⟨a.1, a.2, by decide, by decide⟩)]
    rw [e]
    exact (write_bad X.mp X.fb X.n L x 5 v w h.both.own.st.mem hok).mono fun _ _ ⟨he, hb⟩ => ⟨_, he, h.step hb⟩
theorem PlaySt.write2 {W w : World} {X : PIx} {Z : ZIx} {L K : List Int} {R Q : Nat → Nat} {bx : Nat} {d x : Int} (h : PlaySt W w X Z L R K Q bx d x) (v : Int) : Calls Tryd.prog 33 #[.pointer (some ⟨Z.rp, 1, none⟩), .int .i64 x, .int .i64 5, .int .u32 v] w fun e w' => ∃ k, e = .returned (.int .i64 k) ∧ PlaySt W w' X Z L R (writeL Z.n x v K) Q bx d x := by
  by_cases hok : okFQ Z.n x 5
  · obtain ⟨y, rfl⟩ := Int.eq_ofNat_of_zero_le hok.1
    have e : writeL Z.n (y : Int) v K = K.set (y * 32 + 5) v := by unfold okFQ at hok; rw [writeL, if_pos ⟨hok.1, hok.2.1⟩]; rfl
    rw [e]
    have hy : y < Z.n := by have := hok.2.1; omega
    exact (rwriteM_yes Z.rp Z.rb Z.n K y 5 v w h.both.ref.memM hy (by decide)).mono fun _ _ ⟨he, hp⟩ => ⟨_, he, h.move2 (h.both.ref.putM hp)⟩
  · have e : writeL Z.n x v K = K := by rw [writeL, if_neg (fun a => hok ⟨a.1, a.2, by decide, by decide⟩)]
    rw [e]
    exact (rwriteM_no Z.rp Z.rb Z.n K x 5 v w h.both.ref.memM hok).mono fun _ _ ⟨he, hb⟩ => ⟨_, he, h.step hb⟩
set_option maxHeartbeats 4000000 in
theorem play_any (W w : World) (X : PIx) (Z : ZIx) (L : List Int) (R : Nat → Nat) (d x : Int) (h : Both W w X Z L R L R) (hP : Z.P = X.P) (hn : Z.n = X.n) (hx : I64 x) : Calls Tryd.prog 14 #[.pointer (some ⟨X.mp, 0, none⟩), .pointer (some ⟨X.pb, 0, none⟩), .pointer (some ⟨Z.rp, 0, none⟩), .agg #[.int .i64 d, .int .i64 x]] w fun e w' => e = .returned (.bool true) ∧ ∃ L' R', Both W w' X Z L' R' L' R' := by
  have S := Lib.hid (PlaySt.start h d x)
  have HP := Lib.hid hP
  have HN := Lib.hid hn
  have HX := Lib.hid hx
  clear h hP hn hx
  by_cases d1 : d = 1
  · subst d1
    obtain ⟨q0, hq0⟩ : ∃ q, allocA X.P R x = q := ⟨_, rfl⟩
    obtain ⟨y0, f0⟩ := q0
    obtain ⟨L2, hL2⟩ : ∃ l, allocL X.P R x L = l := ⟨_, rfl⟩
    obtain ⟨R2, hR2⟩ : ∃ r, allocR X.P R x = r := ⟨_, rfl⟩
    have Q1 := Lib.hid hq0
    have Q2 := Lib.hid hL2
    have Q3 := Lib.hid hR2
    have Q4 : Hid ((allocA Z.P R x).1 = y0 ∧ (allocA Z.P R x).2 = f0) := Lib.hid (by rw [HP.out, Q1.out]; exact ⟨rfl, rfl⟩)
    clear hq0 hL2 hR2
    have k0 := S.out.b0
    have k1 := S.out.b1
    have k2 := S.out.both.ref.c0
    have k3 := S.out.both.ref.c1
    have k4 := S.out.both.ref.c2
    go_enter Tryd.func14, Tryd.ntmps14
    go_wp2_with fail
    refine (alloc_is Q1.out Q2.out Q3.out S.out.both.own.st S.out.both.own.table).mono ?_
    rintro e w60 ⟨rfl, hm⟩
    have S := Lib.hid (S.out.move1 hm)
    clear hm k0 k1 k2 k3 k4
    have k0 := S.out.b0
    have k1 := S.out.b1
    have k2 := S.out.both.ref.c0
    have k3 := S.out.both.ref.c1
    have k4 := S.out.both.ref.c2
    go_wp2_with fail
    refine (ralloc_any Z L R x _ S.out.both.ref).mono ?_
    rw [Q4.out.1, Q4.out.2, show allocL Z.P R x L = L2 by rw [HP.out]; exact Q2.out, show allocR Z.P R x = R2 by rw [HP.out]; exact Q3.out]
    rintro e w61 ⟨rfl, hm⟩
    have S := Lib.hid (S.out.move2 hm)
    clear hm k0 k1 k2 k3 k4
    have k0 := S.out.b0
    have k1 := S.out.b1
    have k2 := S.out.both.ref.c0
    have k3 := S.out.both.ref.c1
    have k4 := S.out.both.ref.c2
    go_wp2_with fail
    clear k0 k1 k2 k3 k4
    obtain ⟨o1, ho1⟩ : ∃ o, ownA X.P x = o := ⟨_, rfl⟩
    obtain ⟨a0, e0⟩ := o1
    obtain ⟨c0, hc0⟩ : ∃ c, refI R2 x = c := ⟨_, rfl⟩
    obtain ⟨l0, hl0⟩ : ∃ l, leftA X.P R2 x = l := ⟨_, rfl⟩
    have HO := Lib.hid ho1
    have HO2 := Lib.hid (show ownA Z.P x = (a0, e0) by rw [HP.out]; exact ho1)
    have HC := Lib.hid hc0
    have HL := Lib.hid hl0
    have HL2 := Lib.hid (show leftA Z.P R2 x = l0 by rw [HP.out]; exact hl0)
    clear ho1 hc0 hl0
    have k0 := S.out.b0
    have k1 := S.out.b1
    have k2 := S.out.both.ref.c0
    have k3 := S.out.both.ref.c1
    have k4 := S.out.both.ref.c2
    go_wp2_with (go_at_call 19; refine (owner_is HO.out S.out.both.own.st HX.out).mono ?_; rintro e w70 ⟨rfl, hb⟩; have S := Lib.hid (S.out.step hb); have k0 := S.out.b0; have k1 := S.out.b1; have k2 := S.out.both.ref.c0; have k3 := S.out.both.ref.c1; have k4 := S.out.both.ref.c2; clear hb)
    have S := Lib.hid (S.out.step (Below.refl _ _).drew)
    go_region_held3 (fun w' => w'.cell? ⟨w.heap.size, 0, none⟩ = some (.int .i64 1) ∧ w'.cell? ⟨w.heap.size, 1, none⟩ = some (.int .i64 x) ∧ w'.cell? ⟨Z.rp, 0, none⟩ = some Z.v ∧ w'.cell? ⟨Z.rp, 1, none⟩ = some (.slice (some ⟨Z.rb, 0, none⟩) (Z.n * 32) (Z.n * 32)) ∧ w'.cell? ⟨Z.rp, 2, none⟩ = some (.slice (some ⟨Z.qb, 0, none⟩) Z.n Z.n)) (go_keep)
      (first
        | (go_at_call 34; refine (rowner_is HO2.out S.out.both.ref).mono ?_; rintro e w71 ⟨rfl, hb⟩; have S := Lib.hid (S.out.step hb); have k0 := S.out.b0; have k1 := S.out.b1; have k2 := S.out.both.ref.c0; have k3 := S.out.both.ref.c1; have k4 := S.out.both.ref.c2; clear hb))
    go_wp2_with fail
    have S := Lib.hid (S.out.step (Below.refl _ _).drew)
    go_region_held3 (fun w' => w'.cell? ⟨w.heap.size, 0, none⟩ = some (.int .i64 1) ∧ w'.cell? ⟨w.heap.size, 1, none⟩ = some (.int .i64 x) ∧ w'.cell? ⟨Z.rp, 0, none⟩ = some Z.v ∧ w'.cell? ⟨Z.rp, 1, none⟩ = some (.slice (some ⟨Z.rb, 0, none⟩) (Z.n * 32) (Z.n * 32)) ∧ w'.cell? ⟨Z.rp, 2, none⟩ = some (.slice (some ⟨Z.qb, 0, none⟩) Z.n Z.n)) (go_keep)
      (first
        | (go_at_call 22; refine (refs_is HC.out S.out.both.own.st HX.out).mono ?_; rintro e w72 ⟨rfl, rfl⟩)
        | (go_at_call 35; refine (rrefs_is HC.out S.out.both.ref).mono ?_; rintro e w73 ⟨rfl, hb⟩; have S := Lib.hid (S.out.step hb); have k0 := S.out.b0; have k1 := S.out.b1; have k2 := S.out.both.ref.c0; have k3 := S.out.both.ref.c1; have k4 := S.out.both.ref.c2; clear hb)
        | (go_at_call 23; refine (left_is HL.out S.out.both.own.st).mono ?_; rintro e w74 ⟨rfl, hb⟩; have S := Lib.hid (S.out.step hb); have k0 := S.out.b0; have k1 := S.out.b1; have k2 := S.out.both.ref.c0; have k3 := S.out.both.ref.c1; have k4 := S.out.both.ref.c2; clear hb)
        | (go_at_call 36; refine (rleft_is HL2.out S.out.both.ref).mono ?_; rintro e w75 ⟨rfl, hb⟩; have S := Lib.hid (S.out.step hb); have k0 := S.out.b0; have k1 := S.out.b1; have k2 := S.out.both.ref.c0; have k3 := S.out.both.ref.c1; have k4 := S.out.both.ref.c2; clear hb))
    go_wp2
    go_ret
    exact ⟨rfl, _, _, S.out.both⟩
  · have g1 : (d == 1) = false := by simp [d1]
    by_cases d2 : d = 2
    · subst d2
      clear g1
      obtain ⟨f0, hf0⟩ : ∃ q, shareE X.P R x = q := ⟨_, rfl⟩
      obtain ⟨R2, hR2⟩ : ∃ r, shareR X.P R x = r := ⟨_, rfl⟩
      have Q1 := Lib.hid hf0
      have Q3 := Lib.hid hR2
      have Q4 := Lib.hid (show shareE Z.P R x = f0 by rw [HP.out]; exact hf0)
      have Q5 := Lib.hid (show shareR Z.P R x = R2 by rw [HP.out]; exact hR2)
      clear hf0 hR2
      have k0 := S.out.b0
      have k1 := S.out.b1
      have k2 := S.out.both.ref.c0
      have k3 := S.out.both.ref.c1
      have k4 := S.out.both.ref.c2
      go_enter Tryd.func14, Tryd.ntmps14
      go_wp2_with fail
      have S := Lib.hid (S.out.step (Below.refl _ _).drew)
      go_region_held3 (fun w' => w'.cell? ⟨w.heap.size, 0, none⟩ = some (.int .i64 2) ∧ w'.cell? ⟨w.heap.size, 1, none⟩ = some (.int .i64 x) ∧ w'.cell? ⟨Z.rp, 0, none⟩ = some Z.v ∧ w'.cell? ⟨Z.rp, 1, none⟩ = some (.slice (some ⟨Z.rb, 0, none⟩) (Z.n * 32) (Z.n * 32)) ∧ w'.cell? ⟨Z.rp, 2, none⟩ = some (.slice (some ⟨Z.qb, 0, none⟩) Z.n Z.n)) (go_keep)
        (first
          | (go_at_call 20; refine (share_is Q1.out Q3.out S.out.both.own.st HX.out).mono ?_; rintro e w60 ⟨rfl, hm⟩; have S := Lib.hid (S.out.move1 hm); have k0 := S.out.b0; have k1 := S.out.b1; have k2 := S.out.both.ref.c0; have k3 := S.out.both.ref.c1; have k4 := S.out.both.ref.c2; clear hm)
          | (go_at_call 31; refine (rshare_any Z L R x _ S.out.both.ref).mono ?_; rw [Q4.out, Q5.out]; rintro e w61 ⟨rfl, hm⟩; have S := Lib.hid (S.out.move2 hm); have k0 := S.out.b0; have k1 := S.out.b1; have k2 := S.out.both.ref.c0; have k3 := S.out.both.ref.c1; have k4 := S.out.both.ref.c2; clear hm))
      go_wp2_with fail
      clear k0 k1 k2 k3 k4
      obtain ⟨o1, ho1⟩ : ∃ o, ownA X.P x = o := ⟨_, rfl⟩
      obtain ⟨a0, e0⟩ := o1
      obtain ⟨c0, hc0⟩ : ∃ c, refI R2 x = c := ⟨_, rfl⟩
      obtain ⟨l0, hl0⟩ : ∃ l, leftA X.P R2 x = l := ⟨_, rfl⟩
      have HO := Lib.hid ho1
      have HO2 := Lib.hid (show ownA Z.P x = (a0, e0) by rw [HP.out]; exact ho1)
      have HC := Lib.hid hc0
      have HL := Lib.hid hl0
      have HL2 := Lib.hid (show leftA Z.P R2 x = l0 by rw [HP.out]; exact hl0)
      clear ho1 hc0 hl0
      have k0 := S.out.b0
      have k1 := S.out.b1
      have k2 := S.out.both.ref.c0
      have k3 := S.out.both.ref.c1
      have k4 := S.out.both.ref.c2
      go_wp2_with (go_at_call 19; refine (owner_is HO.out S.out.both.own.st HX.out).mono ?_; rintro e w70 ⟨rfl, hb⟩; have S := Lib.hid (S.out.step hb); have k0 := S.out.b0; have k1 := S.out.b1; have k2 := S.out.both.ref.c0; have k3 := S.out.both.ref.c1; have k4 := S.out.both.ref.c2; clear hb)
      have S := Lib.hid (S.out.step (Below.refl _ _).drew)
      go_region_held3 (fun w' => w'.cell? ⟨w.heap.size, 0, none⟩ = some (.int .i64 2) ∧ w'.cell? ⟨w.heap.size, 1, none⟩ = some (.int .i64 x) ∧ w'.cell? ⟨Z.rp, 0, none⟩ = some Z.v ∧ w'.cell? ⟨Z.rp, 1, none⟩ = some (.slice (some ⟨Z.rb, 0, none⟩) (Z.n * 32) (Z.n * 32)) ∧ w'.cell? ⟨Z.rp, 2, none⟩ = some (.slice (some ⟨Z.qb, 0, none⟩) Z.n Z.n)) (go_keep)
        (first
          | (go_at_call 34; refine (rowner_is HO2.out S.out.both.ref).mono ?_; rintro e w71 ⟨rfl, hb⟩; have S := Lib.hid (S.out.step hb); have k0 := S.out.b0; have k1 := S.out.b1; have k2 := S.out.both.ref.c0; have k3 := S.out.both.ref.c1; have k4 := S.out.both.ref.c2; clear hb))
      go_wp2_with fail
      have S := Lib.hid (S.out.step (Below.refl _ _).drew)
      go_region_held3 (fun w' => w'.cell? ⟨w.heap.size, 0, none⟩ = some (.int .i64 2) ∧ w'.cell? ⟨w.heap.size, 1, none⟩ = some (.int .i64 x) ∧ w'.cell? ⟨Z.rp, 0, none⟩ = some Z.v ∧ w'.cell? ⟨Z.rp, 1, none⟩ = some (.slice (some ⟨Z.rb, 0, none⟩) (Z.n * 32) (Z.n * 32)) ∧ w'.cell? ⟨Z.rp, 2, none⟩ = some (.slice (some ⟨Z.qb, 0, none⟩) Z.n Z.n)) (go_keep)
        (first
          | (go_at_call 22; refine (refs_is HC.out S.out.both.own.st HX.out).mono ?_; rintro e w72 ⟨rfl, rfl⟩)
          | (go_at_call 35; refine (rrefs_is HC.out S.out.both.ref).mono ?_; rintro e w73 ⟨rfl, hb⟩; have S := Lib.hid (S.out.step hb); have k0 := S.out.b0; have k1 := S.out.b1; have k2 := S.out.both.ref.c0; have k3 := S.out.both.ref.c1; have k4 := S.out.both.ref.c2; clear hb)
          | (go_at_call 23; refine (left_is HL.out S.out.both.own.st).mono ?_; rintro e w74 ⟨rfl, hb⟩; have S := Lib.hid (S.out.step hb); have k0 := S.out.b0; have k1 := S.out.b1; have k2 := S.out.both.ref.c0; have k3 := S.out.both.ref.c1; have k4 := S.out.both.ref.c2; clear hb)
          | (go_at_call 36; refine (rleft_is HL2.out S.out.both.ref).mono ?_; rintro e w75 ⟨rfl, hb⟩; have S := Lib.hid (S.out.step hb); have k0 := S.out.b0; have k1 := S.out.b1; have k2 := S.out.both.ref.c0; have k3 := S.out.both.ref.c1; have k4 := S.out.both.ref.c2; clear hb))
      go_wp2
      go_ret
      exact ⟨rfl, _, _, S.out.both⟩
    · have g2 : (d == 2) = false := by simp [d2]
      by_cases d3 : d = 3
      · subst d3
        clear g1 g2
        obtain ⟨f0, hf0⟩ : ∃ q, heldE X.P R x = q := ⟨_, rfl⟩
        obtain ⟨R2, hR2⟩ : ∃ r, freeR X.P R x = r := ⟨_, rfl⟩
        have Q1 := Lib.hid hf0
        have Q3 := Lib.hid hR2
        have Q4 := Lib.hid (show heldE Z.P R x = f0 by rw [HP.out]; exact hf0)
        have Q5 := Lib.hid (show freeR Z.P R x = R2 by rw [HP.out]; exact hR2)
        clear hf0 hR2
        have k0 := S.out.b0
        have k1 := S.out.b1
        have k2 := S.out.both.ref.c0
        have k3 := S.out.both.ref.c1
        have k4 := S.out.both.ref.c2
        go_enter Tryd.func14, Tryd.ntmps14
        go_wp2_with fail
        have S := Lib.hid (S.out.step (Below.refl _ _).drew)
        go_region_held3 (fun w' => w'.cell? ⟨w.heap.size, 0, none⟩ = some (.int .i64 3) ∧ w'.cell? ⟨w.heap.size, 1, none⟩ = some (.int .i64 x) ∧ w'.cell? ⟨Z.rp, 0, none⟩ = some Z.v ∧ w'.cell? ⟨Z.rp, 1, none⟩ = some (.slice (some ⟨Z.rb, 0, none⟩) (Z.n * 32) (Z.n * 32)) ∧ w'.cell? ⟨Z.rp, 2, none⟩ = some (.slice (some ⟨Z.qb, 0, none⟩) Z.n Z.n)) (go_keep)
          (first
            | (go_at_call 21; refine (free_is Q1.out Q3.out S.out.both.own.st HX.out).mono ?_; rintro e w60 ⟨rfl, hm⟩; have S := Lib.hid (S.out.move1 hm); have k0 := S.out.b0; have k1 := S.out.b1; have k2 := S.out.both.ref.c0; have k3 := S.out.both.ref.c1; have k4 := S.out.both.ref.c2; clear hm)
            | (go_at_call 32; refine (rfree_any Z L R x _ S.out.both.ref).mono ?_; rw [Q4.out, Q5.out]; rintro e w61 ⟨rfl, hm⟩; have S := Lib.hid (S.out.move2 hm); have k0 := S.out.b0; have k1 := S.out.b1; have k2 := S.out.both.ref.c0; have k3 := S.out.both.ref.c1; have k4 := S.out.both.ref.c2; clear hm))
        go_wp2_with fail
        clear k0 k1 k2 k3 k4
        obtain ⟨o1, ho1⟩ : ∃ o, ownA X.P x = o := ⟨_, rfl⟩
        obtain ⟨a0, e0⟩ := o1
        obtain ⟨c0, hc0⟩ : ∃ c, refI R2 x = c := ⟨_, rfl⟩
        obtain ⟨l0, hl0⟩ : ∃ l, leftA X.P R2 x = l := ⟨_, rfl⟩
        have HO := Lib.hid ho1
        have HO2 := Lib.hid (show ownA Z.P x = (a0, e0) by rw [HP.out]; exact ho1)
        have HC := Lib.hid hc0
        have HL := Lib.hid hl0
        have HL2 := Lib.hid (show leftA Z.P R2 x = l0 by rw [HP.out]; exact hl0)
        clear ho1 hc0 hl0
        have k0 := S.out.b0
        have k1 := S.out.b1
        have k2 := S.out.both.ref.c0
        have k3 := S.out.both.ref.c1
        have k4 := S.out.both.ref.c2
        go_wp2_with (go_at_call 19; refine (owner_is HO.out S.out.both.own.st HX.out).mono ?_; rintro e w70 ⟨rfl, hb⟩; have S := Lib.hid (S.out.step hb); have k0 := S.out.b0; have k1 := S.out.b1; have k2 := S.out.both.ref.c0; have k3 := S.out.both.ref.c1; have k4 := S.out.both.ref.c2; clear hb)
        have S := Lib.hid (S.out.step (Below.refl _ _).drew)
        go_region_held3 (fun w' => w'.cell? ⟨w.heap.size, 0, none⟩ = some (.int .i64 3) ∧ w'.cell? ⟨w.heap.size, 1, none⟩ = some (.int .i64 x) ∧ w'.cell? ⟨Z.rp, 0, none⟩ = some Z.v ∧ w'.cell? ⟨Z.rp, 1, none⟩ = some (.slice (some ⟨Z.rb, 0, none⟩) (Z.n * 32) (Z.n * 32)) ∧ w'.cell? ⟨Z.rp, 2, none⟩ = some (.slice (some ⟨Z.qb, 0, none⟩) Z.n Z.n)) (go_keep)
          (first
            | (go_at_call 34; refine (rowner_is HO2.out S.out.both.ref).mono ?_; rintro e w71 ⟨rfl, hb⟩; have S := Lib.hid (S.out.step hb); have k0 := S.out.b0; have k1 := S.out.b1; have k2 := S.out.both.ref.c0; have k3 := S.out.both.ref.c1; have k4 := S.out.both.ref.c2; clear hb))
        go_wp2_with fail
        have S := Lib.hid (S.out.step (Below.refl _ _).drew)
        go_region_held3 (fun w' => w'.cell? ⟨w.heap.size, 0, none⟩ = some (.int .i64 3) ∧ w'.cell? ⟨w.heap.size, 1, none⟩ = some (.int .i64 x) ∧ w'.cell? ⟨Z.rp, 0, none⟩ = some Z.v ∧ w'.cell? ⟨Z.rp, 1, none⟩ = some (.slice (some ⟨Z.rb, 0, none⟩) (Z.n * 32) (Z.n * 32)) ∧ w'.cell? ⟨Z.rp, 2, none⟩ = some (.slice (some ⟨Z.qb, 0, none⟩) Z.n Z.n)) (go_keep)
          (first
            | (go_at_call 22; refine (refs_is HC.out S.out.both.own.st HX.out).mono ?_; rintro e w72 ⟨rfl, rfl⟩)
            | (go_at_call 35; refine (rrefs_is HC.out S.out.both.ref).mono ?_; rintro e w73 ⟨rfl, hb⟩; have S := Lib.hid (S.out.step hb); have k0 := S.out.b0; have k1 := S.out.b1; have k2 := S.out.both.ref.c0; have k3 := S.out.both.ref.c1; have k4 := S.out.both.ref.c2; clear hb)
            | (go_at_call 23; refine (left_is HL.out S.out.both.own.st).mono ?_; rintro e w74 ⟨rfl, hb⟩; have S := Lib.hid (S.out.step hb); have k0 := S.out.b0; have k1 := S.out.b1; have k2 := S.out.both.ref.c0; have k3 := S.out.both.ref.c1; have k4 := S.out.both.ref.c2; clear hb)
            | (go_at_call 36; refine (rleft_is HL2.out S.out.both.ref).mono ?_; rintro e w75 ⟨rfl, hb⟩; have S := Lib.hid (S.out.step hb); have k0 := S.out.b0; have k1 := S.out.b1; have k2 := S.out.both.ref.c0; have k3 := S.out.both.ref.c1; have k4 := S.out.both.ref.c2; clear hb))
        go_wp2
        go_ret
        exact ⟨rfl, _, _, S.out.both⟩
      · have g3 : (d == 3) = false := by simp [d3]
        by_cases d4 : d = 4
        · subst d4
          clear g1 g2 g3
          have k0 := S.out.b0
          have k1 := S.out.b1
          have k2 := S.out.both.ref.c0
          have k3 := S.out.both.ref.c1
          have k4 := S.out.both.ref.c2
          go_enter Tryd.func14, Tryd.ntmps14
          go_wp2_with fail
          refine (S.out.write1 _).mono ?_
          rintro e w60 ⟨kx, rfl, hs⟩
          have S := Lib.hid hs
          clear hs k0 k1 k2 k3 k4
          have k0 := S.out.b0
          have k1 := S.out.b1
          have k2 := S.out.both.ref.c0
          have k3 := S.out.both.ref.c1
          have k4 := S.out.both.ref.c2
          go_wp2_with fail
          have S := Lib.hid (S.out.step (Below.refl _ _).drew)
          go_region_held3 (fun w' => w'.cell? ⟨w.heap.size, 0, none⟩ = some (.int .i64 4) ∧ w'.cell? ⟨w.heap.size, 1, none⟩ = some (.int .i64 x) ∧ w'.cell? ⟨Z.rp, 0, none⟩ = some Z.v ∧ w'.cell? ⟨Z.rp, 1, none⟩ = some (.slice (some ⟨Z.rb, 0, none⟩) (Z.n * 32) (Z.n * 32)) ∧ w'.cell? ⟨Z.rp, 2, none⟩ = some (.slice (some ⟨Z.qb, 0, none⟩) Z.n Z.n)) (go_keep)
            (first
              | (go_at_call 33; refine (S.out.write2 _).mono ?_; rw [HN.out]; rintro e w61 ⟨ky, rfl, hs⟩; have S := Lib.hid hs; have k0 := S.out.b0; have k1 := S.out.b1; have k2 := S.out.both.ref.c0; have k3 := S.out.both.ref.c1; have k4 := S.out.both.ref.c2; clear hs))
          go_wp2_with fail
          clear k0 k1 k2 k3 k4
          obtain ⟨o1, ho1⟩ : ∃ o, ownA X.P x = o := ⟨_, rfl⟩
          obtain ⟨a0, e0⟩ := o1
          obtain ⟨c0, hc0⟩ : ∃ c, refI R x = c := ⟨_, rfl⟩
          obtain ⟨l0, hl0⟩ : ∃ l, leftA X.P R x = l := ⟨_, rfl⟩
          have HO := Lib.hid ho1
          have HO2 := Lib.hid (show ownA Z.P x = (a0, e0) by rw [HP.out]; exact ho1)
          have HC := Lib.hid hc0
          have HL := Lib.hid hl0
          have HL2 := Lib.hid (show leftA Z.P R x = l0 by rw [HP.out]; exact hl0)
          clear ho1 hc0 hl0
          have k0 := S.out.b0
          have k1 := S.out.b1
          have k2 := S.out.both.ref.c0
          have k3 := S.out.both.ref.c1
          have k4 := S.out.both.ref.c2
          go_wp2_with (go_at_call 19; refine (owner_is HO.out S.out.both.own.st HX.out).mono ?_; rintro e w70 ⟨rfl, hb⟩; have S := Lib.hid (S.out.step hb); have k0 := S.out.b0; have k1 := S.out.b1; have k2 := S.out.both.ref.c0; have k3 := S.out.both.ref.c1; have k4 := S.out.both.ref.c2; clear hb)
          have S := Lib.hid (S.out.step (Below.refl _ _).drew)
          go_region_held3 (fun w' => w'.cell? ⟨w.heap.size, 0, none⟩ = some (.int .i64 4) ∧ w'.cell? ⟨w.heap.size, 1, none⟩ = some (.int .i64 x) ∧ w'.cell? ⟨Z.rp, 0, none⟩ = some Z.v ∧ w'.cell? ⟨Z.rp, 1, none⟩ = some (.slice (some ⟨Z.rb, 0, none⟩) (Z.n * 32) (Z.n * 32)) ∧ w'.cell? ⟨Z.rp, 2, none⟩ = some (.slice (some ⟨Z.qb, 0, none⟩) Z.n Z.n)) (go_keep)
            (first
              | (go_at_call 34; refine (rowner_is HO2.out S.out.both.ref).mono ?_; rintro e w71 ⟨rfl, hb⟩; have S := Lib.hid (S.out.step hb); have k0 := S.out.b0; have k1 := S.out.b1; have k2 := S.out.both.ref.c0; have k3 := S.out.both.ref.c1; have k4 := S.out.both.ref.c2; clear hb))
          go_wp2_with fail
          have S := Lib.hid (S.out.step (Below.refl _ _).drew)
          go_region_held3 (fun w' => w'.cell? ⟨w.heap.size, 0, none⟩ = some (.int .i64 4) ∧ w'.cell? ⟨w.heap.size, 1, none⟩ = some (.int .i64 x) ∧ w'.cell? ⟨Z.rp, 0, none⟩ = some Z.v ∧ w'.cell? ⟨Z.rp, 1, none⟩ = some (.slice (some ⟨Z.rb, 0, none⟩) (Z.n * 32) (Z.n * 32)) ∧ w'.cell? ⟨Z.rp, 2, none⟩ = some (.slice (some ⟨Z.qb, 0, none⟩) Z.n Z.n)) (go_keep)
            (first
              | (go_at_call 22; refine (refs_is HC.out S.out.both.own.st HX.out).mono ?_; rintro e w72 ⟨rfl, rfl⟩)
              | (go_at_call 35; refine (rrefs_is HC.out S.out.both.ref).mono ?_; rintro e w73 ⟨rfl, hb⟩; have S := Lib.hid (S.out.step hb); have k0 := S.out.b0; have k1 := S.out.b1; have k2 := S.out.both.ref.c0; have k3 := S.out.both.ref.c1; have k4 := S.out.both.ref.c2; clear hb)
              | (go_at_call 23; refine (left_is HL.out S.out.both.own.st).mono ?_; rintro e w74 ⟨rfl, hb⟩; have S := Lib.hid (S.out.step hb); have k0 := S.out.b0; have k1 := S.out.b1; have k2 := S.out.both.ref.c0; have k3 := S.out.both.ref.c1; have k4 := S.out.both.ref.c2; clear hb)
              | (go_at_call 36; refine (rleft_is HL2.out S.out.both.ref).mono ?_; rintro e w75 ⟨rfl, hb⟩; have S := Lib.hid (S.out.step hb); have k0 := S.out.b0; have k1 := S.out.b1; have k2 := S.out.both.ref.c0; have k3 := S.out.both.ref.c1; have k4 := S.out.both.ref.c2; clear hb))
          go_wp2
          go_ret
          exact ⟨rfl, _, _, S.out.both⟩
        · have g4 : (d == 4) = false := by simp [d4]
          have k0 := S.out.b0
          have k1 := S.out.b1
          have k2 := S.out.both.ref.c0
          have k3 := S.out.both.ref.c1
          have k4 := S.out.both.ref.c2
          go_enter Tryd.func14, Tryd.ntmps14
          
          clear k0 k1 k2 k3 k4
          obtain ⟨o1, ho1⟩ : ∃ o, ownA X.P x = o := ⟨_, rfl⟩
          obtain ⟨a0, e0⟩ := o1
          obtain ⟨c0, hc0⟩ : ∃ c, refI R x = c := ⟨_, rfl⟩
          obtain ⟨l0, hl0⟩ : ∃ l, leftA X.P R x = l := ⟨_, rfl⟩
          have HO := Lib.hid ho1
          have HO2 := Lib.hid (show ownA Z.P x = (a0, e0) by rw [HP.out]; exact ho1)
          have HC := Lib.hid hc0
          have HL := Lib.hid hl0
          have HL2 := Lib.hid (show leftA Z.P R x = l0 by rw [HP.out]; exact hl0)
          clear ho1 hc0 hl0
          have k0 := S.out.b0
          have k1 := S.out.b1
          have k2 := S.out.both.ref.c0
          have k3 := S.out.both.ref.c1
          have k4 := S.out.both.ref.c2
          go_wp2_with (go_at_call 19; refine (owner_is HO.out S.out.both.own.st HX.out).mono ?_; rintro e w70 ⟨rfl, hb⟩; have S := Lib.hid (S.out.step hb); have k0 := S.out.b0; have k1 := S.out.b1; have k2 := S.out.both.ref.c0; have k3 := S.out.both.ref.c1; have k4 := S.out.both.ref.c2; clear hb)
          have S := Lib.hid (S.out.step (Below.refl _ _).drew)
          go_region_held3 (fun w' => w'.cell? ⟨w.heap.size, 0, none⟩ = some (.int .i64 d) ∧ w'.cell? ⟨w.heap.size, 1, none⟩ = some (.int .i64 x) ∧ w'.cell? ⟨Z.rp, 0, none⟩ = some Z.v ∧ w'.cell? ⟨Z.rp, 1, none⟩ = some (.slice (some ⟨Z.rb, 0, none⟩) (Z.n * 32) (Z.n * 32)) ∧ w'.cell? ⟨Z.rp, 2, none⟩ = some (.slice (some ⟨Z.qb, 0, none⟩) Z.n Z.n)) (go_keep)
            (first
              | (go_at_call 34; refine (rowner_is HO2.out S.out.both.ref).mono ?_; rintro e w71 ⟨rfl, hb⟩; have S := Lib.hid (S.out.step hb); have k0 := S.out.b0; have k1 := S.out.b1; have k2 := S.out.both.ref.c0; have k3 := S.out.both.ref.c1; have k4 := S.out.both.ref.c2; clear hb))
          go_wp2_with fail
          have S := Lib.hid (S.out.step (Below.refl _ _).drew)
          go_region_held3 (fun w' => w'.cell? ⟨w.heap.size, 0, none⟩ = some (.int .i64 d) ∧ w'.cell? ⟨w.heap.size, 1, none⟩ = some (.int .i64 x) ∧ w'.cell? ⟨Z.rp, 0, none⟩ = some Z.v ∧ w'.cell? ⟨Z.rp, 1, none⟩ = some (.slice (some ⟨Z.rb, 0, none⟩) (Z.n * 32) (Z.n * 32)) ∧ w'.cell? ⟨Z.rp, 2, none⟩ = some (.slice (some ⟨Z.qb, 0, none⟩) Z.n Z.n)) (go_keep)
            (first
              | (go_at_call 22; refine (refs_is HC.out S.out.both.own.st HX.out).mono ?_; rintro e w72 ⟨rfl, rfl⟩)
              | (go_at_call 35; refine (rrefs_is HC.out S.out.both.ref).mono ?_; rintro e w73 ⟨rfl, hb⟩; have S := Lib.hid (S.out.step hb); have k0 := S.out.b0; have k1 := S.out.b1; have k2 := S.out.both.ref.c0; have k3 := S.out.both.ref.c1; have k4 := S.out.both.ref.c2; clear hb)
              | (go_at_call 23; refine (left_is HL.out S.out.both.own.st).mono ?_; rintro e w74 ⟨rfl, hb⟩; have S := Lib.hid (S.out.step hb); have k0 := S.out.b0; have k1 := S.out.b1; have k2 := S.out.both.ref.c0; have k3 := S.out.both.ref.c1; have k4 := S.out.both.ref.c2; clear hb)
              | (go_at_call 36; refine (rleft_is HL2.out S.out.both.ref).mono ?_; rintro e w75 ⟨rfl, hb⟩; have S := Lib.hid (S.out.step hb); have k0 := S.out.b0; have k1 := S.out.b1; have k2 := S.out.both.ref.c0; have k3 := S.out.both.ref.c1; have k4 := S.out.both.ref.c2; clear hb))
          go_wp2
          go_ret
          exact ⟨rfl, _, _, S.out.both⟩
end Go.Proofs.YtiohnhgoddfebaaDoor
