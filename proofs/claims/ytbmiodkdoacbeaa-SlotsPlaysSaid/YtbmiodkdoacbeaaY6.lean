/- The contracts of package slots' isParent and ended. Condition: the table lies as New laid it, and the process is there. -/
import Derived.Test.YtbmiodkdoacbeaaY5
namespace Go.Proofs.Ytbmiodkdoacbeaa
open Go.RowKit Go.Shelf Go.Maps
attribute [local go_sem] Oper.semAt_some
set_option maxRecDepth 100000

theorem atN_tail {y : Nd} {r : List Nd} (h1 : ∀ z ∈ r, y.1 < z.1) {i : Int} {x : Nd} (h : atN i r = some x) : atN i (y :: r) = some x := by
  have h2 := atN_some h
  have := h1 x h2.1
  unfold atN
  rw [if_neg (by omega)]
  exact h
theorem zomb_hit {pid : Int} : ∀ {L : List Nd} {x : Nd}, L.Pairwise (fun a b => a.1 < b.1) → x ∈ L → x.2.1 = pid → x.2.2.1 = 3 → (∀ i, i < x.1 → ∀ y, atN i L = some y → ¬ (y.2.1 = pid ∧ y.2.2.1 = 3)) → zomb pid L = some x
  | y :: r, x, hp, hx, h1, h2, hn => by
    obtain ⟨h3, h4⟩ := List.pairwise_cons.1 hp
    unfold zomb
    rcases List.mem_cons.1 hx with rfl | hx
    · rw [List.find?_cons_of_pos (by simp [h1, h2])]
    · have hlt := h3 x hx
      have hy := hn y.1 hlt y (by unfold atN; rw [if_pos rfl])
      rw [List.find?_cons_of_neg (by simpa using hy)]
      exact zomb_hit h4 hx h1 h2 (fun i hi z hz => hn i hi z (atN_tail h3 hz))
theorem zomb_miss {pid : Int} {L : List Nd} (h : ∀ y ∈ L, ¬ (y.2.1 = pid ∧ y.2.2.1 = 3)) : zomb pid L = none := by
  unfold zomb
  rw [List.find?_eq_none]
  intro y hy
  simpa using h y hy
theorem hasCh_hit {pid : Int} {L : List Nd} {x : Nd} (hx : x ∈ L) (h : x.2.1 = pid) : hasCh pid L = true := by
  unfold hasCh
  rw [List.any_eq_true]
  exact ⟨x, hx, by simpa using h⟩
theorem hasCh_miss {pid : Int} {L : List Nd} (h : ∀ y ∈ L, y.2.1 ≠ pid) : hasCh pid L = false := by
  unfold hasCh
  rw [List.any_eq_false]
  intro y hy
  simpa using h y hy
/-- A walk that only reads: a result's box, the table as it was. -/
structure RoamY (w : World) (w2 : Nat) (r : Obj) (P : Pt) (L : List Nd) (s : PlY) (V : World) : Prop where
  eq : s.2 = (P, L)
  bel : Below w.heap.size w V
  box : V.heap[w.heap.size]? = some r
  low : w.heap.size < w2
theorem RoamY.hangs (w : World) (w2 : Nat) (r : Obj) (P : Pt) (L : List Nd) {p : PlY → Prop} : Hangs w2 (fun s V => RoamY w w2 r P L s V ∧ p s) := fun _ _ _ h hb =>
  ⟨⟨h.1.eq, h.1.bel.trans (hb.mono (by have := h.1.low; omega)), (hb.block _ h.1.low).trans h.1.box, h.1.low⟩, h.2⟩
set_option maxHeartbeats 4000000 in
theorem isParentY_ok {w : World} {b m : Nat} {n : Int} {P : Pt} {L : List Nd} (h : TabAt w b m n P L) {pid : Int} {o : Nat} (ho : P pid = some o) :
    Calls Try.prog 31 #[.pointer (some ⟨b, 0, none⟩), .pointer (some ⟨o, 0, none⟩)] w fun e w' => e = .returned (.bool (hasCh pid L)) ∧ Below w.heap.size w w' := by
  obtain ⟨w1, hw1⟩ : ∃ w1, w1 = w.alloc (.cells #[.bool false] 4) := ⟨_, rfl⟩
  have hz1 : w1.heap.size = w.heap.size + 1 := by rw [hw1]; simp
  obtain ⟨w2, hw2⟩ : ∃ w2, w2 = (w1.alloc (.cells #[.pointer (some ⟨b, 0, none⟩)] 24)).alloc (.cells #[.pointer (some ⟨o, 0, none⟩)] 72) := ⟨_, rfl⟩
  have hz2 : w2.heap.size = w.heap.size + 3 := by rw [hw2]; simp; omega
  have b1 : Below w.heap.size w w1 := by rw [hw1]; exact (Below.refl _ _).alloc (Nat.le_refl _) _
  have b2 : Below w1.heap.size w1 w2 := by rw [hw2]; exact below_two _ _ _
  have r1 : w1.heap[w.heap.size]? = some (.cells #[.bool false] 4 (0, 0)) := by rw [hw1]; exact heap_alloc_new _ _
  have x1 : w2.heap[w1.heap.size]? = some (boxT b) := by rw [hw2]; exact heap_alloc2_old _ _ _
  have x2 : w2.heap[w1.heap.size + 1]? = some (boxP o) := by rw [hw2]; exact heap_alloc2_new _ _ _
  have R2 : Hid (RoamY w w2.heap.size (.cells #[.bool false] 4 (0, 0)) P L (1, P, L) w2) := Lib.hid ⟨rfl, b1.trans (b2.mono (by omega)), (b2.block _ (by omega)).trans r1, by omega⟩
  rw [hz1] at x1 x2
  have X1 := Lib.hid x1
  have X2 := Lib.hid x2
  have H := Lib.hid h
  have HO := Lib.hid ho
  clear h ho b1 b2 r1 x1 x2
  refine (callsIn_wide (n := 14)).1 ?_
  refine callsIn_of_wp_marks Try.func31 rfl trivial ?_ rfl
  simp only [Try.ntmps31, List.size_toArray, List.length_cons, List.length_nil, Nat.reduceAdd, Nat.reduceSub, Array.replicate_succ, Array.replicate_zero, List.push_toArray, List.append_toArray, List.nil_append, List.cons_append]
  gi_wp2
  refine ⟨trivial, ?_⟩
  rw [← hw1]
  clear hw1
  refine (callsIn_wide.2 (mkChildrenY _ _ _)).mono ?_
  rintro e w' ⟨rfl, rfl⟩
  gi_wp2
  rw [← hw2]
  clear hw2
  refine range_g (T := 0) (gf := 34) (lb := #[.pointer (some ⟨w.heap.size + 1, 0, none⟩), .pointer (some ⟨w.heap.size + 1 + 1, 0, none⟩)]) rfl (enters Try.func34 rfl rfl) (children_g (T := 0) (by decide) b m (w.heap.size + 1) (w.heap.size + 1 + 1) o n pid w2 X1.out X2.out)
    (fun k hk => ⟨by omega, rfl⟩) (Nat.le_refl _) (by intro _; rfl)
    (fun s V => RoamY w w2.heap.size (.cells #[.bool false] 4 (0, 0)) P L s V ∧ ∀ i, i < s.1 → ∀ y, atN i L = some y → y.2.1 ≠ pid)
    (fun c V => RoamY w w2.heap.size (.cells #[.bool true] 4 (0, 0)) P L (1, P, L) V ∧ c = .ret ∧ hasCh pid L = true)
    (RoamY.hangs _ _ _ _ _).toT (fun c V V' hh hb => (RoamY.hangs w w2.heap.size _ P L (p := fun _ => c = .ret ∧ hasCh pid L = true)) (1, P, L) V V' hh hb.bel)
    (fun s V hh => by
      obtain ⟨j, P', L'⟩ := s
      have e := hh.1.eq
      simp only [Prod.mk.injEq] at e
      obtain ⟨rfl, rfl⟩ := e
      exact ⟨H.out.later hh.1.bel, HO.out⟩)
    (1, P, L) rfl ⟨R2.out, fun i hi y hy => by have := (H.out.good.at_ hy).1; simp only at hi; omega⟩
    (fun x a' _ => a' = { tmps := #[.pointer (some ⟨b, 0, none⟩), .pointer (some ⟨o, 0, none⟩), undef, undef, .pointer (some ⟨w.heap.size, 0, none⟩), .pointer (some ⟨b, 0, none⟩), .pointer (some ⟨o, 0, none⟩), .func (.func 34) #[] #[.pointer (some ⟨w.heap.size + 1, 0, none⟩), .pointer (some ⟨w.heap.size + 1 + 1, 0, none⟩)], .pointer (some ⟨x, 0, none⟩)], defers := [] })
    (fun _ _ _ _ _ _ hs _ _ => hs)
    ?assign ?body ?pass ?done ?stop
  case assign =>
    rintro l' s x V C hI hzv hC
    dsimp only [encP]
    gi_wp2
    exact hC _ _ (KeepT.refl _ _ _ _) hI (by simp)
  case body =>
    rintro l' ⟨j, P', L'⟩ p a' V ⟨hR, hn⟩ hzv ⟨hr, hp, x, hx, hxp⟩ rfl
    have e := hR.eq
    simp only [Prod.mk.injEq] at e
    obtain ⟨rfl, rfl⟩ := e
    simp only at hx hn
    have hres := hR.box
    have f0 := free_of_one hres
    have g0 := cell_of_one hres
    have R3 : RoamY w w2.heap.size (.cells #[.bool true] 4 (0, 0)) P' L' (1, P', L') (V.setCell ⟨w.heap.size, 0, none⟩ (.bool true)) := ⟨rfl, hR.bel.setCell (p := ⟨w.heap.size, 0, none⟩) (Nat.le_refl _) _, heap_setCell_same _ _ 0 _ _ _ hres, hR.low⟩
    have KK : KeepT 0 (fun k => k = w.heap.size + 1 ∨ k = w.heap.size + 1 + 1) w2.heap.size V (V.setCell ⟨w.heap.size, 0, none⟩ (.bool true)) := KeepT.only (C := fun k => k = w.heap.size) (Only.grown (grownBy_setCell _ _ _ _) rfl) (fun k hk => by omega) (fun k o hk _ hB => by omega)
    have R3 := Lib.hid R3
    have KK := Lib.hid KK
    have CH := Lib.hid (hasCh_hit (atN_some hx).1 hxp)
    clear hR hn hx hres hz1 hz2
    gi_wp2
    exact ⟨KK.out, R3.out, rfl, CH.out⟩
  case pass =>
    rintro ⟨j, P', L'⟩ ⟨j', s'⟩ V ⟨hR, hn⟩ ⟨⟨he, he2⟩, hr, hp⟩
    have e := hR.eq
    simp only [Prod.mk.injEq] at e
    obtain ⟨rfl, rfl⟩ := e
    simp only at he he2 hp hn
    subst he he2
    refine ⟨⟨rfl, hR.bel, hR.box, hR.low⟩, fun i hi y hy => ?_⟩
    simp only at hi
    by_cases c : i = j
    · subst c; exact hp y hy
    · exact hn i (by omega) y hy
  case done =>
    rintro D ⟨j, P', L'⟩ V hD hf ⟨hR, hn⟩ hKD
    have e := hR.eq
    simp only [Prod.mk.injEq] at e
    obtain ⟨rfl, rfl⟩ := e
    have hj : j = n + 1 := hf
    simp only at hn
    have hch : hasCh pid L' = false := hasCh_miss fun y hy => hn y.1 (by have := (H.out.good.ok y hy).1; omega) y (atN_mem H.out.good.up hy)
    have hres := hR.box
    have f0 := free_of_one hres
    have g0 := cell_of_one hres
    have hres2 := heap_setCell_same _ _ 0 _ _ (.bool false) hres
    have hb2 := hR.bel.setCell (p := ⟨w.heap.size, 0, none⟩) (Nat.le_refl _) (.bool false)
    have hlow := hR.low
    have KD : (V.setCell ⟨w.heap.size, 0, none⟩ (.bool false)).heap[D]? = some (.deferred (some [])) := (Below.heap_setCell _ _ _ _ (by simp only; omega)).trans hKD
    have HCH := Lib.hid hch
    clear hR hn hres hj hf hch
    gi_wp2
    generalize V.setCell ⟨w.heap.size, 0, none⟩ (.bool false) = V3 at *
    refine ⟨by simp, .inl ⟨_, _, rfl, run_takeDeferred KD, ?_⟩⟩
    have hb4 := hb2.trans (below_put w.heap.size V3 D (.deferred none) (by omega))
    have hr4 : (V3.putObj D (.deferred none)).heap[w.heap.size]? = some (.cells #[.bool false] 4 (0, 0)) := (World.putObj_heap_other (by omega)).trans hres2
    generalize V3.putObj D (.deferred none) = V4 at *
    have q1 := cell_of_one hr4
    refine ⟨.bool false, ?_, by rw [HCH.out], hb4⟩
    simp [results, Try.results31, go_sem, q1]
  case stop =>
    rintro D c V hD ⟨hR, rfl, hch⟩ hKD
    have hlow := hR.low
    gi_wp2
    refine ⟨by simp, .inl ⟨_, _, rfl, run_takeDeferred hKD, ?_⟩⟩
    have hb4 := hR.bel.trans (below_put w.heap.size V D (.deferred none) (by omega))
    have hr4 : (V.putObj D (.deferred none)).heap[w.heap.size]? = some (.cells #[.bool true] 4 (0, 0)) := (World.putObj_heap_other (by omega)).trans hR.box
    generalize V.putObj D (.deferred none) = V4 at *
    have q1 := cell_of_one hr4
    refine ⟨.bool true, ?_, by rw [hch], hb4⟩
    simp [results, Try.results31, go_sem, q1]
end Go.Proofs.Ytbmiodkdoacbeaa
