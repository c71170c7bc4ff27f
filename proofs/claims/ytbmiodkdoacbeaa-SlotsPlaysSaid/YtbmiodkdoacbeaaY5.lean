/- The contract of package slots' iterator over the children of a process. Condition: the table lies as New laid it, and the process is there. -/
import Derived.Test.YtbmiodkdoacbeaaY4
namespace Go.Proofs.Ytbmiodkdoacbeaa
open Go.RowKit Go.Shelf Go.Maps
attribute [local go_sem] Oper.semAt_some
set_option maxRecDepth 100000

def boxP (o : Nat) : Obj := .cells #[.pointer (some ⟨o, 0, none⟩)] 72 (0, 0)
def wayCh (b m : Nat) (n pid : Int) (o : Nat) : Way PlY Nat where
  At s V := TabAt V b m n s.2.1 s.2.2 ∧ s.2.1 pid = some o
  S s p := (1 ≤ s.1 ∧ s.1 ≤ n) ∧ s.2.1 s.1 = some p ∧ ∃ x, atN s.1 s.2.2 = some x ∧ x.2.1 = pid
  Nx s s' := s'.1 = s.1 + 1
  Ps s s' := (s'.1 = s.1 + 1 ∧ s'.2 = s.2) ∧ (1 ≤ s.1 ∧ s.1 ≤ n) ∧ ∀ x, atN s.1 s.2.2 = some x → x.2.1 ≠ pid
  Start s := s.1 = 1
  Fin s := s.1 = n + 1
def boxYld (l : Nat) : Obj := .cells #[.func (.yield l) #[] #[]] 77 (0, 0)
/-- What the walk over children keeps beside its state. -/
structure ChBox (V : World) (W b b1 b2 o l : Nat) : Prop where
  y : V.heap[W]? = some (boxYld l)
  t : V.heap[b1]? = some (boxT b)
  p : V.heap[b2]? = some (boxP o)
  q : V.heap[W + 1]? = some (boxT b)
theorem ChBox.hangs {W b b1 b2 o l B : Nat} (h1 : b1 < B) (h2 : b2 < B) (hW : W + 1 < B) : Hangs B (fun (_ : PlY) V => ChBox V W b b1 b2 o l) := fun _ _ _ h hb => ⟨(hb.block _ (by omega)).trans h.y, (hb.block _ h1).trans h.t, (hb.block _ h2).trans h.p, (hb.block _ hW).trans h.q⟩
/-- Rows of T are none of these boxes. -/
abbrev apartY (T : TypeId) : Prop := T ≠ 77 ∧ T ≠ 84 ∧ T ≠ 24
theorem ChBox.keep {T : TypeId} (hT : apartY T) {V V' : World} {W b b1 b2 o l B : Nat} (h : ChBox V W b b1 b2 o l) (hk : KeepT T (fun k => k = b1 ∨ k = b2) B V V') (hB : B ≤ W) : ChBox V' W b b1 b2 o l :=
  ⟨hk.same _ _ h.y (Or.inr ⟨hB, fun e => hT.1 (Option.some.inj e).symm⟩), hk.same _ _ h.t (Or.inl (Or.inl rfl)), hk.same _ _ h.p (Or.inl (Or.inr rfl)), hk.same _ _ h.q (Or.inr ⟨by omega, fun e => hT.2.2 (Option.some.inj e).symm⟩)⟩
set_option maxHeartbeats 4000000 in
theorem children_g {T : TypeId} (hT : apartY T) (b m b1 b2 o : Nat) (n pid : Int) (w : World) (h1 : w.heap[b1]? = some (boxT b)) (h2 : w.heap[b2]? = some (boxP o)) :
    SeqG T Try.prog 34 #[.pointer (some ⟨b1, 0, none⟩), .pointer (some ⟨b2, 0, none⟩)] encP (wayCh b m n pid o) (fun k => k = b1 ∨ k = b2) w := by
  intro l J Jx W s0 hK hz hJ hJx hat hY hP hst h0
  have t0 : W.heap[b1]? = some (boxT b) := (hK b1 (Or.inl rfl)).2.trans h1
  have p0 : W.heap[b2]? = some (boxP o) := (hK b2 (Or.inr rfl)).2.trans h2
  have l1 : b1 < W.heap.size := lt_of_block t0
  have l2 : b2 < W.heap.size := lt_of_block p0
  have q0 := cell_of_one t0
  obtain ⟨W1, hW1⟩ : ∃ W1, W1 = (W.alloc (.cells #[.func (.yield l) #[] #[]] 77)).alloc (.cells #[.pointer (some ⟨b, 0, none⟩)] 24) := ⟨_, rfl⟩
  have hB1 : Below W.heap.size W W1 := by rw [hW1]; exact below_two W _ _
  have hz1 : W1.heap.size = W.heap.size + 2 := by rw [hW1]; simp
  have T1 : W1.heap[W.heap.size + 1]? = some (boxT b) := by rw [hW1]; exact heap_alloc2_new W _ _
  have C1 : ChBox W1 W.heap.size b b1 b2 o l := ⟨by rw [hW1]; exact (Below.heap_alloc _ _ _ (by simp)).trans (heap_alloc_new W _), (hB1.block _ l1).trans t0, (hB1.block _ l2).trans p0, T1⟩
  have C1 := Lib.hid C1
  have T1 := Lib.hid T1
  have hmx : Try.prog.follows .mixedOrders = true := by kernel_rfl
  refine (callsIn_wide (n := 12)).1 ?_
  refine callsIn_of_wp_marks Try.func34 rfl trivial ?_ rfl
  simp only [Try.ntmps34, List.size_toArray, List.length_cons, List.length_nil, Nat.reduceAdd, Nat.reduceSub, Array.replicate_succ, Array.replicate_zero, List.push_toArray, List.append_toArray, List.nil_append, List.cons_append]
  gi_wp2_with (refine ⟨trivial, ?_⟩; gi_at_call 27; refine (callsIn_wide.2 (mkAllY _ _)).mono ?_; rintro e w' ⟨rfl, rfl⟩)
  rw [← hW1]
  clear hW1
  refine range_g (gf := 33) (lb := #[.pointer (some ⟨W.heap.size + 1, 0, none⟩)]) rfl (enters Try.func33 rfl rfl) (all_g T b m (W.heap.size + 1) n W1 T1.out)
    (fun k hk => ⟨by omega, rfl⟩) (Nat.le_refl _) (by intro _; rfl)
    (fun s V => J s V ∧ ChBox V W.heap.size b b1 b2 o l) (fun c V => c = .ret ∧ Jx V)
    ((hJ.mono (by omega)).and (ChBox.hangs (by omega) (by omega) (by omega)).toT)
    (fun c V V' h hb => ⟨h.1, hJx () _ _ h.2 (hb.mono (by omega))⟩) (fun s V h => (hat s V h.1).1)
    s0 hst ⟨hJ _ _ _ h0 (StayT.of_below hB1 (Nat.le_refl _)), C1.out⟩
    (fun x a' _ => a' = { tmps := #[.func (.yield l) #[] #[], .pointer (some ⟨b1, 0, none⟩), .pointer (some ⟨b2, 0, none⟩), .pointer (some ⟨W.heap.size, 0, none⟩), .pointer (some ⟨x, 0, none⟩), .pointer (some ⟨b, 0, none⟩), .func (.func 33) #[] #[.pointer (some ⟨W.heap.size + 1, 0, none⟩)], .pointer (some ⟨x, 0, none⟩), undef, undef, undef, undef, undef, undef, undef, undef, undef, undef, undef, undef, undef, undef, undef], defers := [] })
    (fun _ _ _ _ _ _ hs _ _ => hs)
    ?assign ?body ?pass ?done ?stop
  case assign =>
    rintro l' s x V C ⟨hj, hc⟩ hzv hC
    dsimp only [encP]
    gi_wp2
    exact hC _ _ (KeepT.refl _ _ _ _) ⟨hj, hc⟩ rfl
  case body =>
    rintro l' ⟨j, P, L⟩ p a' V ⟨hj, hc⟩ hzv ⟨hr, hp⟩ rfl
    obtain ⟨htab, ho⟩ := hat _ _ hj
    simp only at htab ho hr hp
    obtain ⟨x, hx, hpx⟩ := htab.proc hp
    obtain ⟨y, hy1, hoy⟩ := htab.proc ho
    have hyp : y.1 = pid := (atN_some hy1).2
    obtain ⟨a0, a1, a2, a3, -⟩ := prO_cells hpx
    obtain ⟨o0, -⟩ := prO_cells hoy
    rw [hyp] at o0
    have e3 := cell_of_one hc.y
    have e2 := cell_of_one hc.p
    have WK : Hid (∀ k ob, V.drew.heap[k]? = some ob → (k = W.heap.size + 1 ∨ (W1.heap.size ≤ k ∧ kindOf ob ≠ some T)) → (W.heap.size ≤ k ∧ kindOf ob ≠ some T)) := Lib.hid (fun k ob hob h => by
      rcases h with rfl | h
      · refine ⟨by omega, fun e => hT.2.2 ?_⟩
        have h2 : some ob = some (boxT b) := hob.symm.trans hc.q
        cases h2
        exact (Option.some.inj e).symm
      · exact ⟨by omega, h.2⟩)
    have HC := Lib.hid hc
    have HJ := Lib.hid hj
    have HX := Lib.hid hx
    by_cases hpp : x.2.1 = pid
    · have hb : (x.2.1 == pid) = true := by simpa using hpp
      obtain ⟨fn, tmps, assign, body, hy, hR⟩ := hY (j, P, L) p V.drew 6 (hJ _ _ _ hj (StayT.of_below (Below.refl _ _).drew (by omega))) (by show W.heap.size ≤ V.heap.size; omega) ⟨hr, hp, x, hx, hpp⟩
      dsimp only [encP] at hy
      have HR := Lib.hid hR
      clear hpx hoy htab hc hx hyp hy1 hpp hR
      generalize x.2.1 = u at *
      gi_wp2
      refine round_reads 12 hmx (by kernel_rfl) (by rfl) ?_
      simp only [List.take_succ_cons, List.take_zero, List.drop_succ_cons, List.drop_zero]
      repeat still_step
      try refine wpStill_nil ?_
      gi_wp2
      refine (round_inG HR.out).mono ?_
      rintro e V3 ⟨hk, ⟨rfl, s', hs', hJ3⟩ | ⟨rfl, hJ3⟩⟩
      · gi_wp2
        exact ⟨(KeepT.drew _ _ _ _).trans (hk.weak fun k ob hob h => Or.inr (WK.out k ob hob h)), s', hs', hJ3, HC.out.keep hT ((KeepT.drew _ _ _ _).trans hk) (Nat.le_refl _)⟩
      · gi_wp2
        exact ⟨(KeepT.drew _ _ _ _).trans (hk.weak fun k ob hob h => Or.inr (WK.out k ob hob h)), rfl, hJ3⟩
    · have hb : (x.2.1 == pid) = false := by simpa using hpp
      have N1 := Lib.hid (hP (j, P, L) (j + 1, P, L) V.drew (hJ _ _ _ hj (StayT.of_below (Below.refl _ _).drew (by omega))) ⟨⟨rfl, rfl⟩, hr, fun x' hx' => by simp only at hx'; rw [hx] at hx'; cases hx'; exact hpp⟩)
      clear hpx hoy htab hc hx hyp hy1 hpp
      generalize x.2.1 = u at *
      gi_wp2
      refine round_reads 12 hmx (by kernel_rfl) (by rfl) ?_
      simp only [List.take_succ_cons, List.take_zero, List.drop_succ_cons, List.drop_zero]
      repeat still_step
      try refine wpStill_nil ?_
      gi_wp2
      refine ⟨fun _ h => (by cases h), ?_⟩
      gi_wp2
      exact ⟨KeepT.drew _ _ _ _, (j + 1, P, L), rfl, N1.out, HC.out.keep hT (KeepT.drew _ _ _ _) (Nat.le_refl _)⟩
  case pass =>
    rintro ⟨j, P, L⟩ s' V ⟨hj, hc⟩ ⟨he, hr, hp⟩
    exact ⟨hP _ _ _ hj ⟨he, hr, fun x hx => by rw [(hat _ _ hj).1.none_ hp] at hx; cases hx⟩, hc⟩
  case done =>
    rintro D s V hD hf ⟨hj, -⟩ hKD
    gi_wp2
    refine ⟨by simp, .inl ⟨_, _, rfl, run_takeDeferred hKD, ?_⟩⟩
    exact ⟨_, results_none rfl _ _ _, ⟨_, rfl⟩, Or.inl ⟨s, hf, hJ _ _ _ hj (StayT.put _ hKD (by simp [kindOf]) (by omega))⟩⟩
  case stop =>
    rintro D c V hD ⟨rfl, hj⟩ hKD
    gi_wp2
    refine ⟨by simp, .inl ⟨_, _, rfl, run_takeDeferred hKD, ?_⟩⟩
    exact ⟨_, results_none rfl _ _ _, ⟨_, rfl⟩, Or.inr (hJx () _ _ hj (StayT.put _ hKD (by simp [kindOf]) (by omega)))⟩
end Go.Proofs.Ytbmiodkdoacbeaa
