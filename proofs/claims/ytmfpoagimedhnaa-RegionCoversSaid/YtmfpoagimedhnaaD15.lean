/- The contract of the document's with of layer 14: an area more, joined with those at its sides. Condition: the slice lies in memory. Written by gen/gen_d15.py. -/
import Derived.Test.YtmfpoagimedhnaaD14
import Derived.StillTailTactics
namespace Go.Proofs.Ytmfpoagimedhnaa
open Go.RowKit Go.Maps
set_option maxRecDepth 100000

def boxD (b : Ar) : Obj := .cells #[.int .i64 b.1, .int .i64 b.2.1, .bool b.2.2] 32 (0, 0)
/-- Where the document's with stands: what it kept, and the area that grows, in its box. -/
structure WithD (w wr : World) (s : Value) (out : List Ar) (b : Ar) : Prop where
  row : OwnD (w.heap.size + 1) wr s out
  box : wr.heap[w.heap.size]? = some (boxD b)
  below : Below w.heap.size w wr
theorem WithD.step {w wr w' : World} {s : Value} {out : List Ar} {b : Ar} (h : WithD w wr s out b) (hb : Below wr.heap.size wr w') : WithD w w' s out b := ⟨h.row.step hb, below_block hb h.box, h.below.trans (hb.mono h.below.size)⟩
theorem WithD.ne {w wr : World} {s : Value} {out : List Ar} {b : Ar} (h : WithD w wr s out b) : ∀ g, s.ownBlock = some g → g ≠ w.heap.size := fun g hg e => by
  have := (World.ownsRow.lt h.row g hg).1
  omega
theorem WithD.kept {w wr w' : World} {s s' : Value} {out out' : List Ar} {b : Ar} (h : WithD w wr s out b) (hg : wr.grownBy w' s.ownBlock) (ho : OwnD (w.heap.size + 1) w' s' out') : WithD w w' s' out' b :=
  ⟨ho, (hg.block _ (lt_of_block h.box) (fun e => h.ne _ e.symm rfl)).trans h.box, below_grown h.below hg (Nat.le_refl _) (fun g hg' => by have := (World.ownsRow.lt h.row g hg').1; omega)⟩
/-- The box is written. -/
theorem WithD.put {w wr w' : World} {s : Value} {out : List Ar} {b b' : Ar} (h : WithD w wr s out b) (hg : wr.grownBy w' (some w.heap.size)) (hb : w'.heap[w.heap.size]? = some (boxD b')) : WithD w w' s out b' :=
  ⟨ownsRow_only (B := fun k => k = w.heap.size) h.row (Only.grown hg rfl) (fun g hg' => h.ne g hg'), hb, below_grown h.below hg (Nat.le_refl _) (fun g hg' => by rw [← Option.some.inj hg']; exact Nat.le_refl _)⟩
theorem box_put3 {w : World} {k : Nat} {a b c : Value} {t : TypeId} (h : w.heap[k]? = some (.cells #[a, b, c] t (0, 0))) (a' b' c' : Value) : (((w.setCell ⟨k, 0, none⟩ a').setCell ⟨k, 1, none⟩ b').setCell ⟨k, 2, none⟩ c').heap[k]? = some (.cells #[a', b', c'] t (0, 0)) := by
  have h1 := heap_setCell_same w k 0 _ _ a' h
  have h2 := heap_setCell_same _ k 1 _ _ b' h1
  have h3 := heap_setCell_same _ k 2 _ _ c' h2
  rw [h3]
  simp
theorem box_put1 {w : World} {k : Nat} {a b c : Value} {t : TypeId} (h : w.heap[k]? = some (.cells #[a, b, c] t (0, 0))) (b' : Value) : (w.setCell ⟨k, 1, none⟩ b').heap[k]? = some (.cells #[a, b', c] t (0, 0)) := by
  rw [heap_setCell_same w k 1 _ _ b' h]
  simp
theorem drop_atD {L : List Ar} {j : Nat} (h : j < L.length) : L.drop j = L.getD j default :: L.drop (j + 1) := by
  rw [List.drop_eq_getElem_cons h, List.getD_eq_getElem?_getD, List.getElem?_eq_getElem h]; rfl
theorem stepW_left {out : List Ar} {x y p q : Int} {d : Bool} (h : x + y = p) : stepW (out, (p, q, d)) (x, y, d) = (out, (x, y + q, d)) := by
  unfold stepW; rw [if_pos ⟨rfl, h⟩]
theorem stepW_right {out : List Ar} {x y p q : Int} {d : Bool} (n : ¬ x + y = p) (h : p + q = x) : stepW (out, (p, q, d)) (x, y, d) = (out, (p, q + y, d)) := by
  unfold stepW; rw [if_neg (fun e => n e.2), if_pos ⟨rfl, h⟩]
theorem stepW_apart {out : List Ar} {x y p q : Int} {d : Bool} (n : ¬ x + y = p) (h : ¬ p + q = x) : stepW (out, (p, q, d)) (x, y, d) = (out ++ [(x, y, d)], (p, q, d)) := by
  unfold stepW; rw [if_neg (fun e => n e.2), if_neg (fun e => h e.2)]
theorem stepW_other {out : List Ar} {x y p q : Int} {d e : Bool} (n : ¬ d = e) : stepW (out, (p, q, e)) (x, y, d) = (out ++ [(x, y, d)], (p, q, e)) := by
  unfold stepW; rw [if_neg (fun k => n k.1), if_neg (fun k => n k.1)]
/-- What with answers. -/
def WithPost (w : World) (g : Int → Option Bool) (e : Ending) (w' : World) : Prop := ∃ v R, e = .returned v ∧ ArAt w' v R ∧ UpD R ∧ (∀ p, atD R p = g p) ∧ Below w.heap.size w w'
theorem with_made {W w wx : World} {v : Value} {K : List Ar} {n N : Nat} {b : Ar} {g : Int → Option Bool} (hb : Below w.heap.size w W) (hx : Below W.heap.size W wx) (hn : n ≤ N) (hN : N = K.length) (up : UpD (K.take n ++ b :: K.drop n)) (at_ : ∀ p, atD (K.take n ++ b :: K.drop n) p = g p)
    (h : wx.ownsRow W.heap.size 32 3 v (n + 1 + (N - n)) (arsV (K.take n) ++ [.int .i64 b.1, .int .i64 b.2.1, .bool b.2.2] ++ arsV (K.drop n))) : WithPost w g (.returned v) wx := by
  have e1 : (K.take n ++ b :: K.drop n).length = n + 1 + (N - n) := by rw [List.length_append, List.length_cons, List.length_take, List.length_drop]; omega
  have e2 : arsV (K.take n ++ b :: K.drop n) = arsV (K.take n) ++ [.int .i64 b.1, .int .i64 b.2.1, .bool b.2.2] ++ arsV (K.drop n) := by simp [arsV]
  refine ⟨v, K.take n ++ b :: K.drop n, rfl, ArAt.of_row (base := W.heap.size) (by rw [e1, e2]; exact h) (by have := up.len; omega) up.wide, up, at_, hb.trans (hx.mono hb.size)⟩
theorem OwnD.cuts {base : Nat} {W : World} {g N c n : Nat} {K : List Ar} (h : OwnD base W (.slice (some ⟨g, 0, none⟩) N c) K) (hn : n ≤ K.length) :
    (∀ V, Below W.heap.size W V → ∀ j u, (arsV (K.take n))[j]? = some u → V.cell? ((⟨g, 0, none⟩ : Addr).add j) = some u) ∧ (∀ V, Below W.heap.size W V → ∀ j u, (arsV (K.drop n))[j]? = some u → V.cell? ((⟨g, n * 3, none⟩ : Addr).add j) = some u) := by
  have e : arsV K = arsV (K.take n) ++ arsV (K.drop n) := by rw [← arsV_append, List.take_append_drop]
  have hl : (arsV (K.take n)).length = n * 3 := by rw [arsV_len, List.length_take, Nat.min_eq_left hn]
  have key : ∀ V, Below W.heap.size W V → ∀ j u, (arsV K)[j]? = some u → V.cell? ((⟨g, 0, none⟩ : Addr).add j) = some u := fun V hV j u hu => by
    have h' : V.ownsRow base 32 3 (.slice (some ⟨g, 0, none⟩) N c) K.length (arsV K) := h.step hV
    exact h'.cells (g := g) rfl _ _ hu
  refine ⟨fun V hV j u hu => key V hV j u ?_, fun V hV j u hu => ?_⟩
  · rw [e, List.getElem?_append_left (List.getElem?_eq_some_iff.1 hu).1]
    exact hu
  · have := key V hV (n * 3 + j) u (by rw [e, List.getElem?_append_right (by omega), hl, show n * 3 + j - n * 3 = j by omega]; exact hu)
    rw [Addr.add_mid, Nat.zero_add] at this
    rw [Addr.add_mid]
    exact this
theorem WInv.cut {l : List Ar} {a : Ar} {K : List Ar} {b : Ar} (h : WInv l a [] K b) {k : Nat} (hk : k ≤ K.length) (h1 : ∀ i, i < k → (K.getD i default).1 < b.1) (h2 : k < K.length → b.1 ≤ (K.getD k default).1) : UpD (K.take k ++ b :: K.drop k) ∧ ∀ p, atD (K.take k ++ b :: K.drop k) p = withD a (atD l) p := by
  have e := List.take_append_drop k K
  rw [← e] at h
  refine h.ends (fun z hz => ?_) (fun z hz => ?_)
  · obtain ⟨i, hi, rfl⟩ := List.getElem_of_mem hz
    rw [List.length_take] at hi
    have := h1 i (by omega)
    rw [List.getD_eq_getElem?_getD, List.getElem?_eq_getElem (by omega)] at this
    rw [List.getElem_take]
    exact this
  · by_cases hlt : k < K.length
    · rw [drop_atD hlt] at hz
      rw [← Option.some.inj hz]
      exact h2 hlt
    · rw [List.drop_of_length_le (by omega)] at hz
      cases hz
theorem OwnD.shape {base : Nat} {W : World} {a : Option Addr} {N c : Nat} {K : List Ar} (h : OwnD base W (.slice a N c) K) : (a = none ∧ N = 0 ∧ c = 0 ∧ K = []) ∨ ∃ g, a = some ⟨g, 0, none⟩ ∧ N ≤ c ∧ c ≤ maxLen := by
  rcases h.2 with ⟨e, h0⟩ | ⟨g, cap, cur, e, hb, hgg, h1, h2, _⟩
  · cases e
    exact Or.inl ⟨rfl, rfl, rfl, List.eq_nil_of_length_eq_zero h0⟩
  · cases e
    exact Or.inr ⟨g, rfl, h1, h2⟩
set_option maxHeartbeats 16000000 in
theorem with_ok (L : List Ar) (up : UpD L) (ax ay : Int) (ad : Bool) (ha : FitD ax ay) (hn : ∀ p, HasD (ax, ay, ad) p → atD L p = none) (v : Value) (w : World) (h : ArAt w v L) :
    Calls Try.prog 34 #[v, .agg #[.int .i64 ax, .int .i64 ay, .bool ad]] w (WithPost w (withD (ax, ay, ad) (atD L))) := by
  obtain ⟨ii, hi, hi0, hi1, hi2⟩ := info_parts areaInfo
  have hl := h.len
  obtain ⟨a, c, rfl⟩ := h.form
  obtain ⟨n, hnl⟩ : ∃ n, n = L.length := ⟨_, rfl⟩
  rw [← hnl] at hl h ⊢
  have H := Lib.hid h
  have HN := Lib.hid hnl
  have I0 := Lib.hid (WInv.first up ha hn)
  obtain ⟨w0, hw0⟩ : ∃ w0, w0 = w.alloc (.cells #[.int .i64 ax, .int .i64 ay, .bool ad] 32) := ⟨_, rfl⟩
  have ST0 : Hid (WithD w w0 (.slice none 0 0) [] (ax, ay, ad)) := Lib.hid (by rw [hw0]; exact ⟨World.ownsRow_nil _ _ _ _, heap_alloc_new w _, (Below.refl _ _).alloc (Nat.le_refl _) _⟩)
  have HW := Lib.hid hw0
  obtain ⟨F, hF⟩ : ∃ F, F = withD (ax, ay, ad) (atD L) := ⟨_, rfl⟩
  rw [← hF]
  have HF := Lib.hid hF
  clear h hnl up ha hn hw0 hF
  go_enter Try.func34, Try.ntmps34
  go_wp2_with fail
  rw [← HW.out]
  go_loopw [5, 6] (fun s i wr => ∃ (j : Nat) (K : List Ar) (b : Ar), i = .int .i64 (j : Int) ∧ j ≤ n ∧ WithD w wr s K b ∧ WInv L (ax, ay, ad) (L.drop j) K b) (fun _ i _ => (n - (intOf i).toNat))
  case atStart => exact ⟨0, [], (ax, ay, ad), rfl, Nat.zero_le _, ST0.out, I0.out⟩
  case round =>
    obtain ⟨j, K, ⟨p, q, e⟩, rfl, hj, hST, hInv⟩ := hrel
    have ST := Lib.hid hST
    have INV := Lib.hid hInv
    have hK := (hInv.up.sub (List.sublist_append_left _ _)).len
    obtain ⟨z1, z2, z3⟩ := hInv.fit
    simp only at z1 z2 z3
    obtain ⟨b0, b1, b2⟩ := cells3 (show wr.heap[w.heap.size]? = some (.cells #[.int .i64 p, .int .i64 q, .bool e] 32 (0, 0)) from hST.box)
    clear hST hInv
    obtain ⟨a1, c1, rfl⟩ := owns_slice ST.out.row
    by_cases hlt : j < n
    · have hjl : j < L.length := by rw [← HN.out]; exact hlt
      obtain ⟨⟨x, y, d⟩, hy⟩ : ∃ y, L.getD j default = y := ⟨_, rfl⟩
      obtain ⟨g, o, rfl, hbl, -, d0, d1, d2⟩ := (H.out.below ST.out.below).at_ hjl hy
      simp only at d0 d1 d2
      have CD : Hid (∀ V, Below w.heap.size w V → V.cell? ⟨g, o + j * 3, none⟩ = some (.int .i64 x) ∧ V.cell? ⟨g, o + j * 3 + 1, none⟩ = some (.int .i64 y) ∧ V.cell? ⟨g, o + j * 3 + 2, none⟩ = some (.bool d)) := Lib.hid fun V hV => by
        obtain ⟨g', o', he, -, -, e0, e1, e2⟩ := (H.out.below hV).at_ hjl hy
        simp only [Option.some.injEq, Addr.mk.injEq, and_true] at he
        obtain ⟨rfl, rfl⟩ := he
        exact ⟨e0, e1, e2⟩
      rw [drop_atD hjl, hy] at INV
      obtain ⟨y1, y2, y3⟩ := INV.out.up.fit (x, y, d) (by simp)
      simp only at y1 y2 y3
      have w1 : IntKind.i64.wrap (x + y) = x + y := IntWalk.i64_in _ (by omega)
      have w2 : IntKind.i64.wrap (p + q) = p + q := IntWalk.i64_in _ (by omega)
      have w3 : IntKind.i64.wrap (y + q) = y + q := IntWalk.i64_in _ (by omega)
      have w4 : IntKind.i64.wrap (q + y) = q + y := IntWalk.i64_in _ (by omega)
      clear hy
      cases hde : (d == e) with
      | true =>
        obtain rfl : d = e := by simpa using hde
        by_cases h1 : x + y = p
        · have e1 : (x + y == p) = true := by simpa using h1
          have INV1 := Lib.hid INV.out.step
          rw [stepW_left h1] at INV1
          simp only at INV1
          clear h1 hde
          go_wp2_with fail
          go_quiet (fail)
          have g5 : WithD w (wr.drewN nq) (.slice a1 K.length c1) K (p, q, d) := ST.out.step (below_drewN (Below.refl _ _) nq)
          clear b0 b1 b2 d0 d1 d2
          generalize wr.drewN nq = w5 at g5 ⊢
          have ST5 := Lib.hid g5
          clear g5
          obtain ⟨b0, b1, b2⟩ := cells3 (show w5.heap[w.heap.size]? = some (.cells #[.int .i64 p, .int .i64 q, .bool d] 32 (0, 0)) from ST5.out.box)
          obtain ⟨d0, d1, d2⟩ := CD.out w5 ST5.out.below
          have fz : ∀ i, w5.frozen? ⟨w.heap.size, i, none⟩ = false := fun i => frozen_of_row _ _ _ _ _ ST5.out.box
          have f0 := fz 0
          have f1 := fz 1
          have f2 := fz 2
          have S6 : Hid (WithD w (((w5.setCell ⟨w.heap.size, 0, none⟩ (.int .i64 x)).setCell ⟨w.heap.size, 1, none⟩ (.int .i64 (y + q))).setCell ⟨w.heap.size, 2, none⟩ (.bool d)) (.slice a1 K.length c1) K (x, y + q, d)) := Lib.hid (ST5.out.put ((grownBy_trans (grownBy_trans (grownBy_setCell _ _ _ _) (grownBy_setCell _ _ _ _)) (grownBy_setCell _ _ _ _))) (box_put3 ST5.out.box _ _ _))
          clear fz
          go_wp2_with fail
          go_still_tail 16, (by kernel_rfl)
          go_wp2
          go_roundw
          case rel => exact ⟨j + 1, K, (x, y + q, d), by go_num, by omega, S6.out.step (Below.refl _ _).drew, INV1.out⟩
          case measure => simp [intOf]; omega
        · have e1 : (x + y == p) = false := by simpa using h1
          by_cases h2 : p + q = x
          · have e2 : (p + q == x) = true := by simpa using h2
            have INV1 := Lib.hid INV.out.step
            rw [stepW_right h1 h2] at INV1
            simp only at INV1
            clear h1 h2 hde
            go_wp2_with fail
            go_quiet (fail)
            generalize nq = n4
            go_wp2_with fail
            go_quiet (fail)
            have g5 : WithD w ((wr.drewN n4).drewN nq) (.slice a1 K.length c1) K (p, q, d) := ST.out.step (below_drewN (below_drewN (Below.refl _ _) n4) nq)
            clear b0 b1 b2 d0 d1 d2
            generalize (wr.drewN n4).drewN nq = w5 at g5 ⊢
            have ST5 := Lib.hid g5
            clear g5
            obtain ⟨b0, b1, b2⟩ := cells3 (show w5.heap[w.heap.size]? = some (.cells #[.int .i64 p, .int .i64 q, .bool d] 32 (0, 0)) from ST5.out.box)
            obtain ⟨d0, d1, d2⟩ := CD.out w5 ST5.out.below
            have f1 : w5.frozen? ⟨w.heap.size, 1, none⟩ = false := frozen_of_row _ _ _ _ _ ST5.out.box
            have S6 : Hid (WithD w (w5.setCell ⟨w.heap.size, 1, none⟩ (.int .i64 (q + y))) (.slice a1 K.length c1) K (p, q + y, d)) := Lib.hid (ST5.out.put (grownBy_setCell _ _ _ _) (box_put1 ST5.out.box _))
            go_wp2_with fail
            go_still_tail 9, (by kernel_rfl)
            go_wp2
            go_roundw
            case rel => exact ⟨j + 1, K, (p, q + y, d), by go_num, by omega, S6.out.step (Below.refl _ _).drew, INV1.out⟩
            case measure => simp [intOf]; omega
          · have e2 : (p + q == x) = false := by simpa using h2
            have INV1 := Lib.hid INV.out.step
            rw [stepW_apart h1 h2] at INV1
            simp only at INV1
            clear h1 h2 hde
            go_wp2_with fail
            go_quiet (fail)
            generalize nq = n4
            go_wp2_with fail
            go_quiet (fail)
            have g5 : WithD w ((wr.drewN n4).drewN nq) (.slice a1 K.length c1) K (p, q, d) := ST.out.step (below_drewN (below_drewN (Below.refl _ _) n4) nq)
            clear b0 b1 b2 d0 d1 d2
            generalize (wr.drewN n4).drewN nq = w5 at g5 ⊢
            have ST5 := Lib.hid g5
            clear g5
            obtain ⟨b0, b1, b2⟩ := cells3 (show w5.heap[w.heap.size]? = some (.cells #[.int .i64 p, .int .i64 q, .bool d] 32 (0, 0)) from ST5.out.box)
            obtain ⟨d0, d1, d2⟩ := CD.out w5 ST5.out.below
            have O5 : Hid (WithD w (w5.alloc (.cells #[.int .i64 x, .int .i64 y, .bool d] 32)) (.slice a1 K.length c1) K (p, q, d)) := Lib.hid (ST5.out.step ((Below.refl _ _).alloc (Nat.le_refl _) _))
            go_wp2_with (at_builtin; refine wpList_append_own _ rfl (.tmp 85) (.tmp 90) 22 rfl (w.heap.size + 1) 32 ii (.agg #[.int .i64 0, .int .i64 0, .bool false]) 3 24 Try.underlying22 hi hi0 hi1 hi2 rfl (by decide) _ K.length _ rfl O5.out.row ⟨w5.heap.size, 0, none⟩ 1 1 [.int .i64 x, .int .i64 y, .bool d] rfl rfl (three_at _ _ _ _ _) (by simp [Value.oneCell']) (by unfold maxLen; omega) (by omega) (lt_of_block O5.out.box) ?_; intro v6 w6 ho hg _; have O6 : Hid (WithD w w6 v6 (K ++ [(x, y, d)]) (p, q, d)) := Lib.hid (O5.out.kept hg (own_more (x := (x, y, d)) ho)); clear ho hg)
            go_roundw
            case rel => exact ⟨j + 1, K ++ [(x, y, d)], (p, q, d), by go_num, by omega, O6.out, INV1.out⟩
            case measure => simp [intOf]; omega
      | false =>
        have INV1 := Lib.hid INV.out.step
        rw [stepW_other (by simpa using hde)] at INV1
        simp only at INV1
        go_wp2_with fail
        go_quiet (fail)
        generalize nq = n4
        go_wp2_with fail
        go_quiet (fail)
        have g5 : WithD w ((wr.drewN n4).drewN nq) (.slice a1 K.length c1) K (p, q, e) := ST.out.step (below_drewN (below_drewN (Below.refl _ _) n4) nq)
        clear b0 b1 b2 d0 d1 d2
        generalize (wr.drewN n4).drewN nq = w5 at g5 ⊢
        have ST5 := Lib.hid g5
        clear g5
        obtain ⟨b0, b1, b2⟩ := cells3 (show w5.heap[w.heap.size]? = some (.cells #[.int .i64 p, .int .i64 q, .bool e] 32 (0, 0)) from ST5.out.box)
        obtain ⟨d0, d1, d2⟩ := CD.out w5 ST5.out.below
        have O5 : Hid (WithD w (w5.alloc (.cells #[.int .i64 x, .int .i64 y, .bool d] 32)) (.slice a1 K.length c1) K (p, q, e)) := Lib.hid (ST5.out.step ((Below.refl _ _).alloc (Nat.le_refl _) _))
        go_wp2_with (at_builtin; refine wpList_append_own _ rfl (.tmp 85) (.tmp 90) 22 rfl (w.heap.size + 1) 32 ii (.agg #[.int .i64 0, .int .i64 0, .bool false]) 3 24 Try.underlying22 hi hi0 hi1 hi2 rfl (by decide) _ K.length _ rfl O5.out.row ⟨w5.heap.size, 0, none⟩ 1 1 [.int .i64 x, .int .i64 y, .bool d] rfl rfl (three_at _ _ _ _ _) (by simp [Value.oneCell']) (by unfold maxLen; omega) (by omega) (lt_of_block O5.out.box) ?_; intro v6 w6 ho hg _; have O6 : Hid (WithD w w6 v6 (K ++ [(x, y, d)]) (p, q, e)) := Lib.hid (O5.out.kept hg (own_more (x := (x, y, d)) ho)); clear ho hg)
        go_roundw
        case rel => exact ⟨j + 1, K ++ [(x, y, d)], (p, q, e), by go_num, by omega, O6.out, INV1.out⟩
        case measure => simp [intOf]; omega
    · obtain rfl : j = n := by omega
      have INE : Hid (WInv L (ax, ay, ad) [] K (p, q, e)) := Lib.hid (by have := INV.out; rwa [HN.out, List.drop_length] at this)
      obtain ⟨N, hN⟩ : ∃ N, N = K.length := ⟨_, rfl⟩
      have AT := Lib.hid (OwnD.of ST.out.row (by omega) (by
        have u := INE.out.up
        rw [List.append_nil] at u
        exact u.wide))
      rw [← hN] at hK AT ST ⊢
      have HNK := Lib.hid hN
      clear hN hlt INV
      have TF : Hid (∀ V, Below wr.heap.size wr V → WithD w V (.slice a1 N c1) K (p, q, e) ∧ ArAt V (.slice a1 N c1) K) := Lib.hid fun V hV => ⟨ST.out.step hV, AT.out.below hV⟩
      clear b0 b1 b2 AT ST
      go_wp2_with fail
      go_loopw [7] (fun i wx => ∃ k : Nat, i = .int .i64 (k : Int) ∧ k ≤ N ∧ Below wr.heap.size wr wx ∧ ∀ i, i < k → (K.getD i default).1 < p) (fun i _ => (N - (intOf i).toNat))
      case atStart => exact ⟨0, rfl, Nat.zero_le _, Below.refl _ _, fun i hi => absurd hi (Nat.not_lt_zero _)⟩
      case round =>
        obtain ⟨k, rfl, hk, hB, hlow⟩ := hrel
        obtain ⟨hS, hA⟩ := TF.out _ hB
        have ST := Lib.hid hS
        have AT := Lib.hid hA
        have B := Lib.hid hB
        have LOW := Lib.hid hlow
        obtain ⟨b0, b1, b2⟩ := cells3 (show wr.heap[w.heap.size]? = some (.cells #[.int .i64 p, .int .i64 q, .bool e] 32 (0, 0)) from hS.box)
        have SH := hS.row.shape
        clear hS hA hB hlow TF
        by_cases hlt : k < N
        · obtain ⟨g, rfl, g1, g2⟩ := SH.resolve_left (fun h => by omega)
          obtain ⟨⟨x, y, d⟩, hy⟩ : ∃ y, K.getD k default = y := ⟨_, rfl⟩
          obtain ⟨g', o, hgo, hbl, -, d0, d1, d2⟩ := AT.out.at_ (i := k) (by have := HNK.out; omega) hy
          simp only [Option.some.injEq, Addr.mk.injEq, and_true] at hgo
          obtain ⟨rfl, rfl⟩ := hgo
          simp only [Nat.zero_add] at d0 d1 d2
          clear d1 d2
          by_cases hxp : x < p
          · have e1 : decide (x < p) = true := decide_eq_true hxp
            have LOW1 : Hid (∀ i, i < k + 1 → (K.getD i default).1 < p) := Lib.hid fun i hi => by
              by_cases e : i = k
              · rw [e, hy]; exact hxp
              · exact LOW.out i (by omega)
            clear hy hxp
            go_wp2_with fail
            go_quiet (fail)
            clear e1
            go_wp2
            go_roundw
            case rel => exact ⟨k + 1, by go_num, by omega, below_drewN B.out _, LOW1.out⟩
            case measure => simp [intOf]; omega
          · have e1 : decide (x < p) = false := decide_eq_false hxp
            have PRE : Hid (UpD (K.take k ++ (p, q, e) :: K.drop k) ∧ ∀ r, atD (K.take k ++ (p, q, e) :: K.drop k) r = F r) := Lib.hid (by rw [HF.out]; exact INE.out.cut (by have := HNK.out; omega) LOW.out (fun _ => by rw [hy]; show p ≤ x; omega))
            have hne : c1 ≠ k := by omega
            clear hy hxp
            go_wp2_with fail
            go_quiet (fail)
            have g5 : WithD w (wr.drewN nq) (.slice (some ⟨g, 0, none⟩) N c1) K (p, q, e) := ST.out.step (below_drewN (Below.refl _ _) nq)
            clear b0 b1 b2 d0 e1
            generalize wr.drewN nq = W at g5 ⊢
            have SW := Lib.hid g5
            have CU := Lib.hid (g5.row.cuts (n := k) (by have := HNK.out; omega))
            clear g5
            have OM := Lib.hid (World.ownsRow_lit (base := W.heap.size) (e := 32) (size := 3) W #[] 0 (Nat.le_refl _) (by decide) rfl)
            have AM : Hid (Below W.heap.size W (W.alloc (.cells #[] 32))) := Lib.hid ((Below.refl _ _).alloc (Nat.le_refl _) _)
            have L1 : Hid ((arsV (K.take k)).length = k * 3) := Lib.hid (by rw [arsV_len, List.length_take, Nat.min_eq_left (by have := HNK.out; omega)])
            have L2 : Hid ((arsV (K.drop k)).length = (N - k) * 3) := Lib.hid (by rw [arsV_len, List.length_drop, HNK.out])
            have j1 : (k : Int) ≤ (c1 : Int) := by omega
            have j2 : k ≤ c1 := by omega
            have j4 : (N : Int) ≤ (c1 : Int) := by omega
            have j6 : (k : Int) ≤ (N : Int) := by omega
            go_wp2_with (first
              | (at_builtin; refine wpList_append_own _ rfl (.tmp 108) (.tmp 111) 22 rfl W.heap.size 32 ii (.agg #[.int .i64 0, .int .i64 0, .bool false]) 3 24 Try.underlying22 hi hi0 hi1 hi2 rfl (by decide) _ 0 [] rfl OM.out ⟨g, 0, none⟩ k _ (arsV (K.take k)) rfl L1.out (CU.out.1 _ AM.out) (arsV_one _) (by unfold maxLen; omega) (by omega) AM.out.size ?_; intro v5 w5 ho hg _; rw [Nat.zero_add, List.nil_append] at ho; have B5 := Lib.hid (below_grown AM.out hg (Nat.le_refl _) (fun g h => (World.ownsRow.lt OM.out g h).1)); obtain ⟨a5, c5, rfl⟩ := owns_slice ho; have O5 := Lib.hid ho; obtain ⟨b0, b1, b2⟩ := cells3 (below_block B5.out SW.out.box); clear ho hg)
              | (at_builtin; refine wpList_append_own _ rfl (.tmp 113) (.tmp 115) 22 rfl W.heap.size 32 ii (.agg #[.int .i64 0, .int .i64 0, .bool false]) 3 24 Try.underlying22 hi hi0 hi1 hi2 rfl (by decide) _ _ _ rfl (World.ownsRow.alloc O5.out (.cells #[.int .i64 p, .int .i64 q, .bool e] 32)) ⟨w5.heap.size, 0, none⟩ 1 1 [.int .i64 p, .int .i64 q, .bool e] rfl rfl (three_at _ _ _ _ _) (by simp [Value.oneCell']) (by unfold maxLen; omega) (by omega) (Nat.le_trans B5.out.size (by simp)) ?_; intro v6 w6 ho hg _; have B6 := Lib.hid (below_grown (B5.out.alloc B5.out.size (.cells #[.int .i64 p, .int .i64 q, .bool e] 32)) hg (Nat.le_refl _) (fun g h => (World.ownsRow.lt O5.out g h).1)); obtain ⟨a6, c6, rfl⟩ := owns_slice ho; have O6 := Lib.hid ho; clear ho hg)
              | (at_builtin; refine wpList_append_own _ rfl (.tmp 117) (.tmp 120) 22 rfl W.heap.size 32 ii (.agg #[.int .i64 0, .int .i64 0, .bool false]) 3 24 Try.underlying22 hi hi0 hi1 hi2 rfl (by decide) _ _ _ rfl O6.out ⟨g, k * 3, none⟩ (N - k) (c1 - k) (arsV (K.drop k)) rfl L2.out (CU.out.2 _ B6.out) (arsV_one _) (by unfold maxLen; omega) (by omega) B6.out.size ?_; intro v7 w7 ho hg _; have B7 := Lib.hid (below_grown B6.out hg (Nat.le_refl _) (fun g h => (World.ownsRow.lt O6.out g h).1)); have O7 := Lib.hid ho; clear ho hg))
            go_ret
            exact with_made (b := (p, q, e)) SW.out.below B7.out (by omega) HNK.out PRE.out.1 PRE.out.2 O7.out
        · obtain rfl : k = N := by omega
          have PRE : Hid (UpD (K.take k ++ (p, q, e) :: K.drop k) ∧ ∀ r, atD (K.take k ++ (p, q, e) :: K.drop k) r = F r) := Lib.hid (by rw [HF.out]; exact INE.out.cut (by have := HNK.out; omega) LOW.out (fun h => by have := HNK.out; omega))
          clear hlt
          rcases SH with ⟨rfl, rfl, rfl, rfl⟩ | ⟨g, rfl, g1, g2⟩
          · go_wp2_with fail
            go_quiet (fail)
            have g5 : WithD w (wr.drewN nq) (.slice none 0 0) [] (p, q, e) := ST.out.step (below_drewN (Below.refl _ _) nq)
            clear b0 b1 b2
            generalize wr.drewN nq = W at g5 ⊢
            have SW := Lib.hid g5
            clear g5
            have OM := Lib.hid (World.ownsRow_lit (base := W.heap.size) (e := 32) (size := 3) W #[] 0 (Nat.le_refl _) (by decide) rfl)
            have AM : Hid (Below W.heap.size W (W.alloc (.cells #[] 32))) := Lib.hid ((Below.refl _ _).alloc (Nat.le_refl _) _)
            obtain ⟨b0, b1, b2⟩ := cells3 (below_block AM.out SW.out.box)
            have B5 := Lib.hid (AM.out.alloc AM.out.size (.cells #[.int .i64 p, .int .i64 q, .bool e] 32))
            have N5 : Hid (∀ j u, [.int .i64 p, .int .i64 q, .bool e][j]? = some u → ((W.alloc (.cells #[] 32)).alloc (.cells #[.int .i64 p, .int .i64 q, .bool e] 32)).cell? ((⟨W.heap.size + 1, 0, none⟩ : Addr).add j) = some u) := Lib.hid (by simpa using three_at (W.alloc (.cells #[] 32)) (.int .i64 p) (.int .i64 q) (.bool e) 32)
            go_wp2_with (first
              | (at_builtin; refine wpList_append_own_none rfl (.tmp 108) (.tmp 111) 22 rfl W.heap.size 32 ii 3 Try.underlying22 hi _ 0 [] rfl OM.out rfl ?_)
              | (at_builtin; refine wpList_append_own _ rfl (.tmp 113) (.tmp 115) 22 rfl W.heap.size 32 ii (.agg #[.int .i64 0, .int .i64 0, .bool false]) 3 24 Try.underlying22 hi hi0 hi1 hi2 rfl (by decide) _ 0 _ rfl (World.ownsRow.alloc OM.out (.cells #[.int .i64 p, .int .i64 q, .bool e] 32)) ⟨W.heap.size + 1, 0, none⟩ 1 1 [.int .i64 p, .int .i64 q, .bool e] rfl rfl N5.out (by simp [Value.oneCell']) (by unfold maxLen; omega) (by omega) B5.out.size ?_; intro v6 w6 ho hg _; have B6 := Lib.hid (below_grown B5.out hg (Nat.le_refl _) (fun g h => (World.ownsRow.lt OM.out g h).1)); obtain ⟨a6, c6, rfl⟩ := owns_slice ho; have O6 := Lib.hid ho; clear ho hg)
              | (at_builtin; refine wpList_append_own_none rfl (.tmp 117) (.tmp 120) 22 rfl W.heap.size 32 ii 3 Try.underlying22 hi _ _ _ rfl O6.out rfl ?_))
            go_ret
            exact with_made (b := (p, q, e)) (n := 0) (N := 0) SW.out.below B6.out (Nat.le_refl _) rfl PRE.out.1 PRE.out.2 O6.out
          · by_cases hcp : k = c1
            · subst hcp
              go_wp2_with fail
              go_quiet (fail)
              have g5 : WithD w (wr.drewN nq) (.slice (some ⟨g, 0, none⟩) k k) K (p, q, e) := ST.out.step (below_drewN (Below.refl _ _) nq)
              clear b0 b1 b2
              generalize wr.drewN nq = W at g5 ⊢
              have SW := Lib.hid g5
              have CU := Lib.hid (g5.row.cuts (n := k) (by have := HNK.out; omega))
              clear g5
              have OM := Lib.hid (World.ownsRow_lit (base := W.heap.size) (e := 32) (size := 3) W #[] 0 (Nat.le_refl _) (by decide) rfl)
              have AM : Hid (Below W.heap.size W (W.alloc (.cells #[] 32))) := Lib.hid ((Below.refl _ _).alloc (Nat.le_refl _) _)
              have L1 : Hid ((arsV (K.take k)).length = k * 3) := Lib.hid (by rw [arsV_len, List.length_take, Nat.min_eq_left (by have := HNK.out; omega)])
              have L2 : Hid ((arsV (K.drop k)).length = (k - k) * 3) := Lib.hid (by rw [arsV_len, List.length_drop, HNK.out])
              have j1 : (k : Int) ≤ (k : Int) := by omega
              have j2 : k ≤ k := by omega
              have j4 : (k : Int) ≤ (k : Int) := by omega
              have j6 : (k : Int) ≤ (k : Int) := by omega
              go_wp2_with (first
                | (at_builtin; refine wpList_append_own _ rfl (.tmp 108) (.tmp 111) 22 rfl W.heap.size 32 ii (.agg #[.int .i64 0, .int .i64 0, .bool false]) 3 24 Try.underlying22 hi hi0 hi1 hi2 rfl (by decide) _ 0 [] rfl OM.out ⟨g, 0, none⟩ k _ (arsV (K.take k)) rfl L1.out (CU.out.1 _ AM.out) (arsV_one _) (by unfold maxLen; omega) (by omega) AM.out.size ?_; intro v5 w5 ho hg _; rw [Nat.zero_add, List.nil_append] at ho; have B5 := Lib.hid (below_grown AM.out hg (Nat.le_refl _) (fun g h => (World.ownsRow.lt OM.out g h).1)); obtain ⟨a5, c5, rfl⟩ := owns_slice ho; have O5 := Lib.hid ho; obtain ⟨b0, b1, b2⟩ := cells3 (below_block B5.out SW.out.box); clear ho hg)
                | (at_builtin; refine wpList_append_own _ rfl (.tmp 113) (.tmp 115) 22 rfl W.heap.size 32 ii (.agg #[.int .i64 0, .int .i64 0, .bool false]) 3 24 Try.underlying22 hi hi0 hi1 hi2 rfl (by decide) _ _ _ rfl (World.ownsRow.alloc O5.out (.cells #[.int .i64 p, .int .i64 q, .bool e] 32)) ⟨w5.heap.size, 0, none⟩ 1 1 [.int .i64 p, .int .i64 q, .bool e] rfl rfl (three_at _ _ _ _ _) (by simp [Value.oneCell']) (by unfold maxLen; omega) (by omega) (Nat.le_trans B5.out.size (by simp)) ?_; intro v6 w6 ho hg _; have B6 := Lib.hid (below_grown (B5.out.alloc B5.out.size (.cells #[.int .i64 p, .int .i64 q, .bool e] 32)) hg (Nat.le_refl _) (fun g h => (World.ownsRow.lt O5.out g h).1)); obtain ⟨a6, c6, rfl⟩ := owns_slice ho; have O6 := Lib.hid ho; clear ho hg)
                | (at_builtin; refine wpList_append_own _ rfl (.tmp 117) (.tmp 120) 22 rfl W.heap.size 32 ii (.agg #[.int .i64 0, .int .i64 0, .bool false]) 3 24 Try.underlying22 hi hi0 hi1 hi2 rfl (by decide) _ _ _ rfl O6.out ⟨g, 0, none⟩ 0 _ [] rfl rfl (fun j u hu => by cases hu) (fun u hu => by cases hu)  (by unfold maxLen; omega) (by omega) B6.out.size ?_; intro v7 w7 ho hg _; have B7 := Lib.hid (below_grown B6.out hg (Nat.le_refl _) (fun g h => (World.ownsRow.lt O6.out g h).1)); have O7 := Lib.hid ho; clear ho hg))
              go_ret
              exact with_made (b := (p, q, e)) SW.out.below B7.out (by omega) HNK.out PRE.out.1 PRE.out.2 (by have h7 := O7.out; rw [List.drop_of_length_le (by have := HNK.out; omega), Nat.sub_self]; exact h7)
            · have hne : c1 ≠ k := fun e => hcp e.symm
              go_wp2_with fail
              go_quiet (fail)
              have g5 : WithD w (wr.drewN nq) (.slice (some ⟨g, 0, none⟩) k c1) K (p, q, e) := ST.out.step (below_drewN (Below.refl _ _) nq)
              clear b0 b1 b2
              generalize wr.drewN nq = W at g5 ⊢
              have SW := Lib.hid g5
              have CU := Lib.hid (g5.row.cuts (n := k) (by have := HNK.out; omega))
              clear g5
              have OM := Lib.hid (World.ownsRow_lit (base := W.heap.size) (e := 32) (size := 3) W #[] 0 (Nat.le_refl _) (by decide) rfl)
              have AM : Hid (Below W.heap.size W (W.alloc (.cells #[] 32))) := Lib.hid ((Below.refl _ _).alloc (Nat.le_refl _) _)
              have L1 : Hid ((arsV (K.take k)).length = k * 3) := Lib.hid (by rw [arsV_len, List.length_take, Nat.min_eq_left (by have := HNK.out; omega)])
              have L2 : Hid ((arsV (K.drop k)).length = (k - k) * 3) := Lib.hid (by rw [arsV_len, List.length_drop, HNK.out])
              have j1 : (k : Int) ≤ (c1 : Int) := by omega
              have j2 : k ≤ c1 := by omega
              have j4 : (k : Int) ≤ (c1 : Int) := by omega
              have j6 : (k : Int) ≤ (k : Int) := by omega
              go_wp2_with (first
                | (at_builtin; refine wpList_append_own _ rfl (.tmp 108) (.tmp 111) 22 rfl W.heap.size 32 ii (.agg #[.int .i64 0, .int .i64 0, .bool false]) 3 24 Try.underlying22 hi hi0 hi1 hi2 rfl (by decide) _ 0 [] rfl OM.out ⟨g, 0, none⟩ k _ (arsV (K.take k)) rfl L1.out (CU.out.1 _ AM.out) (arsV_one _) (by unfold maxLen; omega) (by omega) AM.out.size ?_; intro v5 w5 ho hg _; rw [Nat.zero_add, List.nil_append] at ho; have B5 := Lib.hid (below_grown AM.out hg (Nat.le_refl _) (fun g h => (World.ownsRow.lt OM.out g h).1)); obtain ⟨a5, c5, rfl⟩ := owns_slice ho; have O5 := Lib.hid ho; obtain ⟨b0, b1, b2⟩ := cells3 (below_block B5.out SW.out.box); clear ho hg)
                | (at_builtin; refine wpList_append_own _ rfl (.tmp 113) (.tmp 115) 22 rfl W.heap.size 32 ii (.agg #[.int .i64 0, .int .i64 0, .bool false]) 3 24 Try.underlying22 hi hi0 hi1 hi2 rfl (by decide) _ _ _ rfl (World.ownsRow.alloc O5.out (.cells #[.int .i64 p, .int .i64 q, .bool e] 32)) ⟨w5.heap.size, 0, none⟩ 1 1 [.int .i64 p, .int .i64 q, .bool e] rfl rfl (three_at _ _ _ _ _) (by simp [Value.oneCell']) (by unfold maxLen; omega) (by omega) (Nat.le_trans B5.out.size (by simp)) ?_; intro v6 w6 ho hg _; have B6 := Lib.hid (below_grown (B5.out.alloc B5.out.size (.cells #[.int .i64 p, .int .i64 q, .bool e] 32)) hg (Nat.le_refl _) (fun g h => (World.ownsRow.lt O5.out g h).1)); obtain ⟨a6, c6, rfl⟩ := owns_slice ho; have O6 := Lib.hid ho; clear ho hg)
                | (at_builtin; refine wpList_append_own _ rfl (.tmp 117) (.tmp 120) 22 rfl W.heap.size 32 ii (.agg #[.int .i64 0, .int .i64 0, .bool false]) 3 24 Try.underlying22 hi hi0 hi1 hi2 rfl (by decide) _ _ _ rfl O6.out ⟨g, k * 3, none⟩ 0 (c1 - k) [] rfl rfl (fun j u hu => by cases hu) (fun u hu => by cases hu)  (by unfold maxLen; omega) (by omega) B6.out.size ?_; intro v7 w7 ho hg _; have B7 := Lib.hid (below_grown B6.out hg (Nat.le_refl _) (fun g h => (World.ownsRow.lt O6.out g h).1)); have O7 := Lib.hid ho; clear ho hg))
              go_ret
              exact with_made (b := (p, q, e)) SW.out.below B7.out (by omega) HNK.out PRE.out.1 PRE.out.2 (by have h7 := O7.out; rw [List.drop_of_length_le (by have := HNK.out; omega), Nat.sub_self]; exact h7)
end Go.Proofs.Ytmfpoagimedhnaa
