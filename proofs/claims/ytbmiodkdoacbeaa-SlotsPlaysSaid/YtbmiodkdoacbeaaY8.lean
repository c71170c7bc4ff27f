/- The contract of package slots' iterator over who is served. Condition: the table lies as New laid it. -/
import Derived.Test.YtbmiodkdoacbeaaY7
namespace Go.Proofs.Ytbmiodkdoacbeaa
open Go.RowKit Go.Shelf Go.Maps
attribute [local go_sem] Oper.semAt_some
set_option maxRecDepth 100000

theorem ended_none {w : World} {b m : Nat} {n : Int} {P : Pt} {L : List Nd} (h : TabAt w b m n P L) {pid : Int} {o : Nat} (ho : P pid = some o) (hz : zomb pid L = none) :
    Calls Try.prog 39 #[.pointer (some ⟨b, 0, none⟩), .pointer (some ⟨o, 0, none⟩)] w fun e w' => e = .returned (.pointer none) ∧ Below w.heap.size w w' :=
  (endedY_ok h ho).mono fun e w' ⟨⟨v, h1, h2⟩, h3⟩ => by
    rw [hz] at h2
    exact ⟨by rw [h1, show v = _ from h2], h3⟩
theorem ended_some {w : World} {b m : Nat} {n : Int} {P : Pt} {L : List Nd} (h : TabAt w b m n P L) {pid : Int} {o : Nat} (ho : P pid = some o) {c : Nd} (hz : zomb pid L = some c) {q : Nat} (hq : P c.1 = some q) :
    Calls Try.prog 39 #[.pointer (some ⟨b, 0, none⟩), .pointer (some ⟨o, 0, none⟩)] w fun e w' => e = .returned (.pointer (some ⟨q, 0, none⟩)) ∧ Below w.heap.size w w' :=
  (endedY_ok h ho).mono fun e w' ⟨⟨v, h1, h2⟩, h3⟩ => by
    rw [hz] at h2
    obtain ⟨q', hq', hv⟩ := h2
    rw [hq] at hq'
    cases hq'
    exact ⟨by rw [h1, hv], h3⟩

def encPP (x : Nat × Nat) : Array Value := #[.pointer (some ⟨x.1, 0, none⟩), .pointer (some ⟨x.2, 0, none⟩)]
def waySv (b m : Nat) (n : Int) : Way PlY (Nat × Nat) where
  At s V := TabAt V b m n s.2.1 s.2.2
  S s x := (1 ≤ s.1 ∧ s.1 ≤ n) ∧ s.2.1 s.1 = some x.1 ∧ ∃ c, isSrv s.1 s.2.2 = some c ∧ s.2.1 c.1 = some x.2
  Nx s s' := s'.1 = s.1 + 1
  Ps s s' := (s'.1 = s.1 + 1 ∧ s'.2 = s.2) ∧ (1 ≤ s.1 ∧ s.1 ≤ n) ∧ isSrv s.1 s.2.2 = none
  Start s := s.1 = 1
  Fin s := s.1 = n + 1
def boxYld2 (l : Nat) : Obj := .cells #[.func (.yield l) #[] #[]] 84 (0, 0)
structure SvBox (V : World) (W b bt l : Nat) : Prop where
  y : V.heap[W]? = some (boxYld2 l)
  t : V.heap[bt]? = some (boxT b)
  q : V.heap[W + 1]? = some (boxT b)
theorem SvBox.hangs {W b bt l B : Nat} (h1 : bt < B) (hW : W + 1 < B) : Hangs B (fun (_ : PlY) V => SvBox V W b bt l) := fun _ _ _ h hb => ⟨(hb.block _ (by omega)).trans h.y, (hb.block _ h1).trans h.t, (hb.block _ hW).trans h.q⟩
theorem SvBox.keep {T : TypeId} (hT : apartY T) {V V' : World} {W b bt l B : Nat} (h : SvBox V W b bt l) (hk : KeepT T (fun k => k = bt) B V V') (hB : B ≤ W) : SvBox V' W b bt l :=
  ⟨hk.same _ _ h.y (Or.inr ⟨hB, fun e => hT.2.1 (Option.some.inj e).symm⟩), hk.same _ _ h.t (Or.inl rfl), hk.same _ _ h.q (Or.inr ⟨by omega, fun e => hT.2.2 (Option.some.inj e).symm⟩)⟩
set_option maxHeartbeats 4000000 in
theorem served_g {T : TypeId} (hT : apartY T) (b m bt : Nat) (n : Int) (w : World) (h1 : w.heap[bt]? = some (boxT b)) :
    SeqG T Try.prog 38 #[.pointer (some ⟨bt, 0, none⟩)] encPP (waySv b m n) (fun k => k = bt) w := by
  intro l J Jx W s0 hK hz hJ hJx hat hY hP hst h0
  have t0 : W.heap[bt]? = some (boxT b) := (hK bt rfl).2.trans h1
  have l1 : bt < W.heap.size := lt_of_block t0
  have q0 := cell_of_one t0
  obtain ⟨W1, hW1⟩ : ∃ W1, W1 = (W.alloc (.cells #[.func (.yield l) #[] #[]] 84)).alloc (.cells #[.pointer (some ⟨b, 0, none⟩)] 24) := ⟨_, rfl⟩
  have hB1 : Below W.heap.size W W1 := by rw [hW1]; exact below_two W _ _
  have hz1 : W1.heap.size = W.heap.size + 2 := by rw [hW1]; simp
  have T1 : W1.heap[W.heap.size + 1]? = some (boxT b) := by rw [hW1]; exact heap_alloc2_new W _ _
  have C1 : SvBox W1 W.heap.size b bt l := ⟨by rw [hW1]; exact (Below.heap_alloc _ _ _ (by simp)).trans (heap_alloc_new W _), (hB1.block _ l1).trans t0, T1⟩
  have C1 := Lib.hid C1
  have T1 := Lib.hid T1
  have hmx : Try.prog.follows .mixedOrders = true := by kernel_rfl
  refine (callsIn_wide (n := 12)).1 ?_
  refine callsIn_of_wp_marks Try.func38 rfl trivial ?_ rfl
  simp only [Try.ntmps38, List.size_toArray, List.length_cons, List.length_nil, Nat.reduceAdd, Nat.reduceSub, Array.replicate_succ, Array.replicate_zero, List.push_toArray, List.append_toArray, List.nil_append, List.cons_append]
  gi_wp2_with (refine ⟨trivial, ?_⟩; gi_at_call 27; refine (callsIn_wide.2 (mkAllY _ _)).mono ?_; rintro e w' ⟨rfl, rfl⟩)
  rw [← hW1]
  clear hW1
  refine range_g (gf := 33) (lb := #[.pointer (some ⟨W.heap.size + 1, 0, none⟩)]) rfl (enters Try.func33 rfl rfl) (all_g T b m (W.heap.size + 1) n W1 T1.out)
    (fun k hk => ⟨by omega, rfl⟩) (Nat.le_refl _) (by intro _; rfl)
    (fun s V => J s V ∧ SvBox V W.heap.size b bt l) (fun c V => c = .ret ∧ Jx V)
    ((hJ.mono (by omega)).and (SvBox.hangs (by omega) (by omega)).toT)
    (fun c V V' h hb => ⟨h.1, hJx () _ _ h.2 (hb.mono (by omega))⟩) (fun s V h => hat s V h.1)
    s0 hst ⟨hJ _ _ _ h0 (StayT.of_below hB1 (Nat.le_refl _)), C1.out⟩
    (fun x a' _ => a' = { tmps := #[.func (.yield l) #[] #[], .pointer (some ⟨bt, 0, none⟩), .pointer (some ⟨W.heap.size, 0, none⟩), .pointer (some ⟨x, 0, none⟩), undef, .pointer (some ⟨b, 0, none⟩), .func (.func 33) #[] #[.pointer (some ⟨W.heap.size + 1, 0, none⟩)], .pointer (some ⟨x, 0, none⟩), undef, undef, undef, undef, undef, undef, undef, undef, undef, undef, undef, undef, undef, undef, undef, undef, undef], defers := [] })
    (fun _ _ _ _ _ _ hs _ _ => hs)
    ?assign ?body ?pass ?done ?stop
  case assign =>
    rintro l' s x V C ⟨hj, hc⟩ hzv hC
    dsimp only [encP]
    gi_wp2
    exact hC _ _ (KeepT.refl _ _ _ _) ⟨hj, hc⟩ rfl
  case body =>
    rintro l' ⟨j, P, L⟩ p a' V ⟨hj, hc⟩ hzv ⟨hr, hp⟩ rfl
    have htab := hat _ _ hj
    change TabAt V b m n P L at htab
    simp only at hr hp
    obtain ⟨x, hx, hpx⟩ := htab.proc hp
    obtain ⟨a0, a1, a2, a3, -⟩ := prO_cells hpx
    have e2 := cell_of_one hc.t
    have WK : Hid (∀ V' k ob, Below V.heap.size V V' → V'.heap[k]? = some ob → (k = W.heap.size + 1 ∨ (W1.heap.size ≤ k ∧ kindOf ob ≠ some T)) → (W.heap.size ≤ k ∧ kindOf ob ≠ some T)) := Lib.hid (fun V' k ob hb hob h => by
      rcases h with rfl | h
      · refine ⟨by omega, fun e => hT.2.2 ?_⟩
        have h2 : some ob = some (boxT b) := hob.symm.trans (below_block hb hc.q)
        cases h2
        exact (Option.some.inj e).symm
      · exact ⟨by omega, h.2⟩)
    have HC := Lib.hid hc
    have HJ := Lib.hid hj
    have JB : Hid (∀ V', Below V.heap.size V V' → J (j, P, L) V') := Lib.hid (fun V' hb => hJ _ _ _ hj (StayT.of_below hb (by omega)))
    have HX := Lib.hid hx
    have HT := Lib.hid htab
    have HZ : Hid (W.heap.size ≤ V.heap.size) := Lib.hid (by omega)
    have HPP := Lib.hid hp
    by_cases h2 : x.2.2.1 = 2
    · have hb : (x.2.2.1 == 2) = true := by simpa using h2
      have hse : isSrv j L = zomb j L := by unfold isSrv; rw [hx]; simp only; rw [if_pos h2]
      cases hz : zomb j L with
      | none =>
        have END := Lib.hid (ended_none htab hp hz)
        have N1 : Hid (∀ V', Below V.heap.size V V' → J (j + 1, P, L) V') := Lib.hid (fun V' hb => hP (j, P, L) (j + 1, P, L) V' (JB.out V' hb) ⟨⟨rfl, rfl⟩, hr, hse.trans hz⟩)
        rw [h2] at a2
        clear hpx htab hc hx h2 hse hz hp
        gi_wp2_with (refine ⟨trivial, ?_⟩; gi_at_call 39; refine (CallsIn.inRound l' (callsIn_wide.2 END.out)).mono ?_; rintro e V' ⟨rfl, hb9⟩; have B9 := Lib.hid hb9; clear hb9)
        refine ⟨fun _ h => (by cases h), ?_⟩
        gi_wp2
        exact ⟨KeepT.of_below B9.out, (j + 1, P, L), rfl, N1.out _ B9.out, HC.out.keep hT (KeepT.of_below B9.out) (Nat.le_refl _)⟩
      | some c =>
        have hcm := zomb_some hz
        obtain ⟨q, hq, -⟩ := htab.inn c.1 c (atN_mem htab.good.up hcm.1)
        have END := Lib.hid (ended_some htab hp hz hq)
        have YV := Lib.hid (fun V' (hb : Below V.heap.size V V') => hY (j, P, L) (p, q) V' 6 (JB.out V' hb) (Nat.le_trans HZ.out hb.size) ⟨hr, hp, c, hse.trans hz, hq⟩)
        rw [h2] at a2
        clear hpx htab hc hx h2 hse hz hp hcm hq
        gi_wp2_with (refine ⟨trivial, ?_⟩; gi_at_call 39; refine (CallsIn.inRound l' (callsIn_wide.2 END.out)).mono ?_; rintro e V' ⟨rfl, hb9⟩; have B9 := Lib.hid hb9; obtain ⟨fn, tmps, assign, body, hy, hR⟩ := YV.out V' hb9; dsimp only [encPP] at hy; have HR := Lib.hid hR; have e4 := cell_of_one (below_block hb9 HC.out.y); clear hb9 hR)
        refine (round_inG HR.out).mono ?_
        rintro e V3 ⟨hk, ⟨rfl, s', hs', hJ3⟩ | ⟨rfl, hJ3⟩⟩
        · gi_wp2
          exact ⟨(KeepT.of_below B9.out).trans (hk.weak fun k ob hob h => Or.inr (WK.out _ k ob B9.out hob h)), s', hs', hJ3, HC.out.keep hT ((KeepT.of_below B9.out).trans hk) (Nat.le_refl _)⟩
        · gi_wp2
          exact ⟨(KeepT.of_below B9.out).trans (hk.weak fun k ob hob h => Or.inr (WK.out _ k ob B9.out hob h)), rfl, hJ3⟩
    · have hb : (x.2.2.1 == 2) = false := by simpa using h2
      have hse : isSrv j L = none := by unfold isSrv; rw [hx]; simp only; rw [if_neg h2]
      have N1 := Lib.hid (hP (j, P, L) (j + 1, P, L) V hj ⟨⟨rfl, rfl⟩, hr, hse⟩)
      clear hpx htab hc hx h2 hse hp
      generalize x.2.2.1 = u at *
      gi_wp2
      exact ⟨KeepT.refl _ _ _ _, (j + 1, P, L), rfl, N1.out, HC.out⟩
  case pass =>
    rintro ⟨j, P, L⟩ s' V ⟨hj, hc⟩ ⟨he, hr, hp⟩
    exact ⟨hP _ _ _ hj ⟨he, hr, by unfold isSrv; rw [(hat _ _ hj : TabAt V b m n P L).none_ hp]⟩, hc⟩
  case done =>
    rintro D s V hD hf ⟨hj, -⟩ hKD
    gi_wp2
    refine ⟨by simp, .inl ⟨_, _, rfl, run_takeDeferred hKD, ?_⟩⟩
    exact ⟨_, results_none rfl _ _ _, ⟨_, rfl⟩, Or.inl ⟨s, hf, hJ _ _ _ hj (StayT.put _ hKD (by simp [kindOf]) (by omega))⟩⟩
  case stop =>
    rintro D c V hD ⟨rfl, hj⟩ hKD
    gi_wp2
    refine ⟨by simp, .inl ⟨_, _, rfl, run_takeDeferred hKD, ?_⟩⟩
    exact ⟨_, results_none rfl _ _ _, ⟨_, rfl⟩, Or.inr (hJx () _ _ hj (StayT.put _ hKD (by simp [kindOf]) (by omega)))⟩
end Go.Proofs.Ytbmiodkdoacbeaa
