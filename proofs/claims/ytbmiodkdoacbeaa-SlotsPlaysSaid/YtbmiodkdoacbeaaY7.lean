/- The contract of package slots' ended. Condition: the table lies as New laid it, and the process is there. -/
import Derived.Test.YtbmiodkdoacbeaaY6
namespace Go.Proofs.Ytbmiodkdoacbeaa
open Go.RowKit Go.Shelf Go.Maps
attribute [local go_sem] Oper.semAt_some
set_option maxRecDepth 100000

/-- A pointer to the least child that is a zombie. -/
def EndV (P : Pt) : Option Nd → Value → Prop
  | none, v => v = .pointer none
  | some c, v => ∃ q, P c.1 = some q ∧ v = .pointer (some ⟨q, 0, none⟩)
def NoZ (pid : Int) (L : List Nd) (j : Int) : Prop := ∀ i, i < j → ∀ y, atN i L = some y → ¬ (y.2.1 = pid ∧ y.2.2.1 = 3)
def EndIx (w : World) (w2 : Nat) (P : Pt) (L : List Nd) (pid : Int) (c : Code) (V : World) : Prop := ∃ q x, RoamY w w2 (boxP q) P L (1, P, L) V ∧ c = .ret ∧ zomb pid L = some x ∧ P x.1 = some q
set_option maxHeartbeats 4000000 in
theorem endedY_ok {w : World} {b m : Nat} {n : Int} {P : Pt} {L : List Nd} (h : TabAt w b m n P L) {pid : Int} {o : Nat} (ho : P pid = some o) :
    Calls Try.prog 39 #[.pointer (some ⟨b, 0, none⟩), .pointer (some ⟨o, 0, none⟩)] w fun e w' => (∃ v, e = .returned v ∧ EndV P (zomb pid L) v) ∧ Below w.heap.size w w' := by
  obtain ⟨w1, hw1⟩ : ∃ w1, w1 = w.alloc (.cells #[.pointer none] 72) := ⟨_, rfl⟩
  have hz1 : w1.heap.size = w.heap.size + 1 := by rw [hw1]; simp
  obtain ⟨w2, hw2⟩ : ∃ w2, w2 = (w1.alloc (.cells #[.pointer (some ⟨b, 0, none⟩)] 24)).alloc (.cells #[.pointer (some ⟨o, 0, none⟩)] 72) := ⟨_, rfl⟩
  have hz2 : w2.heap.size = w.heap.size + 3 := by rw [hw2]; simp; omega
  have b1 : Below w.heap.size w w1 := by rw [hw1]; exact (Below.refl _ _).alloc (Nat.le_refl _) _
  have b2 : Below w1.heap.size w1 w2 := by rw [hw2]; exact below_two _ _ _
  have r1 : w1.heap[w.heap.size]? = some (.cells #[.pointer none] 72 (0, 0)) := by rw [hw1]; exact heap_alloc_new _ _
  have x1 : w2.heap[w1.heap.size]? = some (boxT b) := by rw [hw2]; exact heap_alloc2_old _ _ _
  have x2 : w2.heap[w1.heap.size + 1]? = some (boxP o) := by rw [hw2]; exact heap_alloc2_new _ _ _
  have R2 : Hid (RoamY w w2.heap.size (.cells #[.pointer none] 72 (0, 0)) P L (1, P, L) w2) := Lib.hid ⟨rfl, b1.trans (b2.mono (by omega)), (b2.block _ (by omega)).trans r1, by omega⟩
  rw [hz1] at x1 x2
  have X1 := Lib.hid x1
  have X2 := Lib.hid x2
  have H := Lib.hid h
  have HO := Lib.hid ho
  clear h ho b1 b2 r1 x1 x2
  refine (callsIn_wide (n := 14)).1 ?_
  refine callsIn_of_wp_marks Try.func39 rfl trivial ?_ rfl
  simp only [Try.ntmps39, List.size_toArray, List.length_cons, List.length_nil, Nat.reduceAdd, Nat.reduceSub, Array.replicate_succ, Array.replicate_zero, List.push_toArray, List.append_toArray, List.nil_append, List.cons_append]
  gi_wp2
  refine ⟨trivial, ?_⟩
  rw [← hw1]
  clear hw1
  refine (callsIn_wide.2 (mkChildrenY _ _ _)).mono ?_
  rintro e w' ⟨rfl, rfl⟩
  gi_wp2
  rw [← hw2]
  clear hw2
  refine range_g (T := 0) (gf := 34) (lb := #[.pointer (some ⟨w.heap.size + 1, 0, none⟩), .pointer (some ⟨w.heap.size + 1 + 1, 0, none⟩)]) rfl (enters Try.func34 rfl rfl) (children_g (T := 0) (by decide) b m (w.heap.size + 1) (w.heap.size + 1 + 1) o n pid w2 X1.out X2.out)
    (fun k hk => ⟨by omega, rfl⟩) (Nat.le_refl _) (by intro _; rfl)
    (fun s V => RoamY w w2.heap.size (.cells #[.pointer none] 72 (0, 0)) P L s V ∧ NoZ pid L s.1)
    (EndIx w w2.heap.size P L pid)
    (RoamY.hangs _ _ _ _ _).toT (fun c V V' hh hb => by obtain ⟨q, x, hh⟩ := hh; exact ⟨q, x, (RoamY.hangs w w2.heap.size _ P L (p := fun _ => c = .ret ∧ zomb pid L = some x ∧ P x.1 = some q)) (1, P, L) V V' hh hb.bel⟩)
    (fun s V hh => by
      obtain ⟨j, P', L'⟩ := s
      have e := hh.1.eq
      simp only [Prod.mk.injEq] at e
      obtain ⟨rfl, rfl⟩ := e
      exact ⟨H.out.later hh.1.bel, HO.out⟩)
    (1, P, L) rfl ⟨R2.out, fun i hi y hy => by have := (H.out.good.at_ hy).1; simp only at hi; omega⟩
    (fun x a' _ => a' = { tmps := #[.pointer (some ⟨b, 0, none⟩), .pointer (some ⟨o, 0, none⟩), undef, undef, .pointer (some ⟨w.heap.size, 0, none⟩), .pointer (some ⟨x, 0, none⟩), .pointer (some ⟨b, 0, none⟩), .pointer (some ⟨o, 0, none⟩), .func (.func 34) #[] #[.pointer (some ⟨w.heap.size + 1, 0, none⟩), .pointer (some ⟨w.heap.size + 1 + 1, 0, none⟩)], .pointer (some ⟨x, 0, none⟩), undef, undef, undef, undef, undef, undef], defers := [] })
    (fun _ _ _ _ _ _ hs _ _ => hs)
    ?assign ?body ?pass ?done ?stop
  case assign =>
    rintro l' s x V C hI hzv hC
    dsimp only [encP]
    gi_wp2
    exact hC _ _ (KeepT.refl _ _ _ _) hI rfl
  case body =>
    rintro l' ⟨j, P', L'⟩ p a' V ⟨hR, hn⟩ hzv ⟨hr, hp, x, hx, hxp⟩ rfl
    have e := hR.eq
    simp only [Prod.mk.injEq] at e
    obtain ⟨rfl, rfl⟩ := e
    simp only at hx hn
    obtain ⟨x', hx', hpx⟩ := (H.out.later hR.bel).proc hp
    have ex : x' = x := by rw [hx] at hx'; exact (Option.some.inj hx').symm
    subst ex
    obtain ⟨a0, a1, a2, a3, -⟩ := prO_cells hpx
    have hj1 := (atN_some hx).2
    by_cases hs3 : x'.2.2.1 = 3
    · rw [hs3] at a2
      have hres := hR.box
      have f0 := free_of_one hres
      have g0 := cell_of_one hres
      have R3 : RoamY w w2.heap.size (boxP p) P' L' (1, P', L') (V.setCell ⟨w.heap.size, 0, none⟩ (.pointer (some ⟨p, 0, none⟩))) := ⟨rfl, hR.bel.setCell (p := ⟨w.heap.size, 0, none⟩) (Nat.le_refl _) _, heap_setCell_same _ _ 0 _ _ _ hres, hR.low⟩
      have KK : KeepT 0 (fun k => k = w.heap.size + 1 ∨ k = w.heap.size + 1 + 1) w2.heap.size V (V.setCell ⟨w.heap.size, 0, none⟩ (.pointer (some ⟨p, 0, none⟩))) := KeepT.only (C := fun k => k = w.heap.size) (Only.grown (grownBy_setCell _ _ _ _) rfl) (fun k hk => by omega) (fun k o hk _ hB => by omega)
      have R3 := Lib.hid R3
      have KK := Lib.hid KK
      have ZZ := Lib.hid (zomb_hit H.out.good.up (atN_some hx).1 hxp hs3 (fun i hi y hy => hn i (by omega) y hy))
      have HP := Lib.hid (show P' x'.1 = some p by rw [hj1]; exact hp)
      clear hR hn hx hx' hpx hres hz1 hz2 hj1 hxp hs3
      gi_wp2
      exact ⟨KK.out, p, x', R3.out, rfl, ZZ.out, HP.out⟩
    · have hb3 : (x'.2.2.1 == 3) = false := by simpa using hs3
      have NX : Hid (RoamY w w2.heap.size (.cells #[.pointer none] 72 (0, 0)) P' L' (j + 1, P', L') V ∧ NoZ pid L' (j + 1)) := Lib.hid ⟨⟨rfl, hR.bel, hR.box, hR.low⟩, fun i hi y hy => by
        by_cases c : i = j
        · subst c; rw [hx] at hy; cases hy; exact fun h => hs3 h.2
        · exact hn i (by omega) y hy⟩
      clear hR hn hx hx' hpx hz1 hz2 hj1 hxp hs3
      generalize x'.2.2.1 = u at *
      gi_wp2
      exact ⟨KeepT.refl _ _ _ _, j + 1, P', L', rfl, NX.out⟩
  case pass =>
    rintro ⟨j, P', L'⟩ ⟨j', s'⟩ V ⟨hR, hn⟩ ⟨⟨he, he2⟩, hr, hp⟩
    have e := hR.eq
    simp only [Prod.mk.injEq] at e
    obtain ⟨rfl, rfl⟩ := e
    simp only at he he2 hp hn
    subst he he2
    refine ⟨⟨rfl, hR.bel, hR.box, hR.low⟩, fun i hi y hy => ?_⟩
    simp only at hi
    by_cases c : i = j
    · subst c; exact fun h => hp y hy h.1
    · exact hn i (by omega) y hy
  case done =>
    rintro D ⟨j, P', L'⟩ V hD hf ⟨hR, hn⟩ hKD
    have e := hR.eq
    simp only [Prod.mk.injEq] at e
    obtain ⟨rfl, rfl⟩ := e
    have hj : j = n + 1 := hf
    simp only at hn
    have hch : zomb pid L' = none := zomb_miss fun y hy => hn y.1 (by have := (H.out.good.ok y hy).1; omega) y (atN_mem H.out.good.up hy)
    have hres := hR.box
    have f0 := free_of_one hres
    have g0 := cell_of_one hres
    have hres2 := heap_setCell_same _ _ 0 _ _ (.pointer none) hres
    have hb2 := hR.bel.setCell (p := ⟨w.heap.size, 0, none⟩) (Nat.le_refl _) (.pointer none)
    have hlow := hR.low
    have KD : (V.setCell ⟨w.heap.size, 0, none⟩ (.pointer none)).heap[D]? = some (.deferred (some [])) := (Below.heap_setCell _ _ _ _ (by simp only; omega)).trans hKD
    have HCH := Lib.hid hch
    clear hR hn hres hj hf hch
    gi_wp2
    generalize V.setCell ⟨w.heap.size, 0, none⟩ (.pointer none) = V3 at *
    refine ⟨by simp, .inl ⟨_, _, rfl, run_takeDeferred KD, ?_⟩⟩
    have hb4 := hb2.trans (below_put w.heap.size V3 D (.deferred none) (by omega))
    have hr4 : (V3.putObj D (.deferred none)).heap[w.heap.size]? = some (.cells #[.pointer none] 72 (0, 0)) := (World.putObj_heap_other (by omega)).trans hres2
    generalize V3.putObj D (.deferred none) = V4 at *
    have q1 := cell_of_one hr4
    refine ⟨.pointer none, ?_, ⟨_, rfl, by rw [HCH.out]; rfl⟩, hb4⟩
    simp [results, Try.results39, go_sem, q1]
  case stop =>
    rintro D c V hD ⟨q, x, hR, rfl, hch, hpq⟩ hKD
    have hlow := hR.low
    gi_wp2
    refine ⟨by simp, .inl ⟨_, _, rfl, run_takeDeferred hKD, ?_⟩⟩
    have hb4 := hR.bel.trans (below_put w.heap.size V D (.deferred none) (by omega))
    have hr4 : (V.putObj D (.deferred none)).heap[w.heap.size]? = some (boxP q) := (World.putObj_heap_other (by omega)).trans hR.box
    generalize V.putObj D (.deferred none) = V4 at *
    have q1 := cell_of_one hr4
    refine ⟨.pointer (some ⟨q, 0, none⟩), ?_, ⟨_, rfl, by rw [hch]; exact ⟨q, hpq, rfl⟩⟩, hb4⟩
    simp [results, Try.results39, go_sem, q1]
end Go.Proofs.Ytbmiodkdoacbeaa
