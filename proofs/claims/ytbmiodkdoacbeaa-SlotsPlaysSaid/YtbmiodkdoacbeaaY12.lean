/- The contract of package slots' Exit. Condition: the table lies as New laid it, or there is none. -/
import Derived.Test.YtbmiodkdoacbeaaY11
namespace Go.Proofs.Ytbmiodkdoacbeaa
open Go.RowKit Go.Shelf Go.Maps
attribute [local go_sem] Oper.semAt_some
set_option maxRecDepth 100000

theorem exitY_no (p : Option Addr) (pid c : Int) (w : World) (h : NoTab w p) : Calls Try.prog 18 #[.pointer p, .int .i64 pid, .int .u32 c] w fun e w' => e = .returned (.tuple #[.slice none 0 0, .int .i64 1]) ∧ w = w' := by
  go_enter Try.func18, Try.ntmps18
  go_wp2_with fail
  refine (findY_no p pid w h).mono ?_
  rintro e w' ⟨rfl, rfl⟩
  go_wp2
  go_ret2
  exact ⟨rfl, rfl⟩
/-- The children of one, those of numbers below j, given to 1. -/
def upTo (pid j : Int) (x : Nd) : Nd := if x.1 < j then reUp pid 1 x else x
theorem upTo_id (pid j : Int) (x : Nd) : (upTo pid j x).1 = x.1 := by unfold upTo; split; { exact reUp_id pid 1 x }; rfl
theorem upTo_one {n pid : Int} {M : List Nd} (h : GoodY n M) : M.map (upTo pid 1) = M := by
  conv => rhs; rw [← List.map_id M]
  refine List.map_congr_left fun x hx => ?_
  have := (h.ok x hx).1
  unfold upTo
  rw [if_neg (by omega)]
  rfl
theorem upTo_end {n pid : Int} {M : List Nd} (h : GoodY n M) : M.map (upTo pid (n + 1)) = M.map (reUp pid 1) := by
  refine List.map_congr_left fun x hx => ?_
  have := (h.ok x hx).1
  unfold upTo
  rw [if_pos (by omega)]
theorem atN_upTo_ge {pid j i : Int} {M : List Nd} (h : j ≤ i) : atN i (M.map (upTo pid j)) = atN i M := by
  rw [atN_map (upTo_id pid j)]
  cases e : atN i M with
  | none => rfl
  | some x =>
    have := (atN_some e).2
    simp only [Option.map_some]
    unfold upTo
    rw [if_neg (by omega)]
theorem atN_upTo_same {pid j : Int} {M : List Nd} {x : Nd} (h : atN j M = some x) : atN j (M.map (upTo pid (j + 1))) = some (reUp pid 1 x) := by
  rw [atN_map (upTo_id pid (j + 1)), h]
  have := (atN_some h).2
  simp only [Option.map_some]
  unfold upTo
  rw [if_pos (by omega)]
theorem atN_upTo_other {pid j i : Int} {M : List Nd} (h : i ≠ j) : atN i (M.map (upTo pid (j + 1))) = atN i (M.map (upTo pid j)) := by
  rw [atN_map (upTo_id pid (j + 1)), atN_map (upTo_id pid j)]
  cases e : atN i M with
  | none => rfl
  | some x =>
    have := (atN_some e).2
    simp only [Option.map_some]
    unfold upTo
    by_cases c : x.1 < j
    · rw [if_pos (by omega), if_pos c]
    · rw [if_neg (by omega), if_neg c]
theorem upTo_pass {pid j : Int} {M : List Nd} (h : ∀ x ∈ M, x.1 = j → x.2.1 ≠ pid) : M.map (upTo pid (j + 1)) = M.map (upTo pid j) := by
  refine List.map_congr_left fun x hx => ?_
  unfold upTo
  by_cases c : x.1 = j
  · rw [if_pos (by omega), if_neg (by omega)]
    unfold reUp
    rw [if_neg (h x hx c)]
  · by_cases c2 : x.1 < j
    · rw [if_pos (by omega), if_pos c2]
    · rw [if_neg (by omega), if_neg c2]
theorem GoodY.upTo {n : Int} {M : List Nd} (h : GoodY n M) (pid j : Int) : GoodY n (M.map (upTo pid j)) :=
  h.map (upTo_id pid j) fun p _ hp => by
    unfold Proofs.Ytbmiodkdoacbeaa.upTo
    split
    · unfold Proofs.Ytbmiodkdoacbeaa.reUp
      split
      · exact ⟨hp.1, (show (0:Int) ≤ 1 ∧ (1:Int) ≤ 8 by decide), hp.2.2⟩
      · exact hp
    · exact hp
theorem atN_zomS_same {L : List Nd} {j c : Int} {x : Nd} (h : atN j L = some x) : atN j (L.map (zomS j c)) = some (x.1, x.2.1, 3, c) := by
  rw [atN_map (zomS_id j c), h]
  have := (atN_some h).2
  simp [zomS, this]
theorem atN_zomS_other {L : List Nd} {j c i : Int} (hi : i ≠ j) : atN i (L.map (zomS j c)) = atN i L := by
  rw [atN_map (zomS_id j c)]
  cases e : atN i L with
  | none => rfl
  | some x =>
    have := (atN_some e).2
    simp [zomS, show ¬ x.1 = j by omega]
/-- What Exit has done so far, ahead of serving. -/
structure ExSt (w : World) (b m : Nat) (n : Int) (P : Pt) (pid : Int) (M : List Nd) (s : PlY) (V : World) : Prop where
  eq : s.2 = (P, M.map (upTo pid s.1))
  tab : TabAt V b m n P (M.map (upTo pid s.1))
  low : TabLow w.heap.size b m P
  only : Only w V (tB m P)
theorem ExSt.stay {w : World} {b m : Nat} {n : Int} {P : Pt} {pid : Int} {M : List Nd} {s : PlY} {V V' : World} (h : ExSt w b m n P pid M s V) {B : Nat} (hB : w.heap.size ≤ B) (hs : Below B V V') : ExSt w b m n P pid M s V' :=
  ⟨h.eq, h.tab.step hs (fun k hk => by have := h.low k hk; omega), h.low,
    ⟨hs.os.trans h.only.os, hs.tape.trans h.only.tape, hs.output.trans h.only.output, Nat.le_trans h.only.size hs.size, fun k hk hn => (hs.block k (by omega)).trans (h.only.block k hk hn)⟩⟩
/-- What Exit and Wait answer, and leave. -/
def AnsY (w : World) (b m : Nat) (n : Int) (P : Pt) (er : Int) (L' : List Nd) (R : List Rp) (e : Ending) (w' : World) : Prop :=
  (∃ v, e = .returned (.tuple #[v, .int .i64 er]) ∧ w'.ownsRow w.heap.size 58 3 v R.length (rpV R)) ∧ ToY w w' b m n P L'
theorem AnsY.none_ {w w' : World} {b m : Nat} {n : Int} {P : Pt} {L : List Nd} (h : TabAt w b m n P L) (er : Int) (hb : Below w.heap.size w w') : AnsY w b m n P er L [] (.returned (.tuple #[.slice none 0 0, .int .i64 er])) w' :=
  ⟨⟨_, rfl, World.ownsRow_nil _ _ _ _⟩, ToY.stay h hb⟩
theorem TabAt.putD {V : World} {b m : Nat} {n : Int} {P : Pt} {L : List Nd} (h : TabAt V b m n P L) {D : Nat} {x : Option (List Deferred)} (o : Obj) (hD : V.heap[D]? = some (.deferred x)) : TabAt (V.putObj D o) b m n P L := by
  refine h.kept (World.putObj_heap_other ?_) fun k hk => World.putObj_heap_other ?_
  · rintro rfl
    have := h.box
    rw [hD] at this
    cases this
  · rintro rfl
    rcases hk with rfl | ⟨id, hp⟩
    · obtain ⟨es, ck, hm⟩ := h.map.isMap
      rw [hD] at hm
      cases hm
    · obtain ⟨x, _, h2⟩ := h.proc hp
      rw [hD] at h2
      cases h2
set_option maxHeartbeats 8000000 in
theorem exitY_ok {w : World} {b m : Nat} {n : Int} {P : Pt} {L : List Nd} (h : TabAt w b m n P L) (pid c : Int) (hi : I64 pid) (hc : 0 ≤ c ∧ c ≤ 4294967295) :
    Calls Try.prog 18 #[.pointer (some ⟨b, 0, none⟩), .int .i64 pid, .int .u32 c] w (AnsY w b m n P (exitE L pid) (exitL n L pid c) (exitR n L pid c)) := by
  cases hp : P pid with
  | none =>
    have e4 : exitE L pid = 4 := by unfold exitE; rw [h.none_ hp]
    have eL : exitL n L pid c = L := by unfold exitL; rw [e4]; rfl
    have eR : exitR n L pid c = [] := by unfold exitR; rw [e4]; rfl
    rw [e4, eL, eR]
    have A := Lib.hid (fun w' => AnsY.none_ (w' := w') h 4)
    have H := Lib.hid h
    have HP := Lib.hid hp
    clear h hp e4 eL eR
    go_enter Try.func18, Try.ntmps18
    go_wp2_with fail
    refine (findY_none H.out hi HP.out).mono ?_
    rintro e w' ⟨rfl, rfl⟩
    go_wp2
    go_ret2
    exact A.out _ (Below.refl _ _)
  | some p =>
    obtain ⟨x, hx, hpx⟩ := h.proc hp
    obtain ⟨a0, a1, a2, a3, af⟩ := prO_cells hpx
    have H := Lib.hid h
    have HP := Lib.hid hp
    by_cases h1 : pid = 1
    · have e8 : exitE L pid = 8 := by unfold exitE; rw [hx]; simp only; rw [if_pos h1]
      have eL : exitL n L pid c = L := by unfold exitL; rw [e8]; rfl
      have eR : exitR n L pid c = [] := by unfold exitR; rw [e8]; rfl
      rw [e8, eL, eR]
      have A := Lib.hid (fun w' => AnsY.none_ (w' := w') h 8)
      subst h1
      clear h hp hx hpx e8 eL eR a0 a1 a2 a3 af
      go_enter Try.func18, Try.ntmps18
      go_wp2_with fail
      refine (findY_some H.out hi HP.out).mono ?_
      rintro e w' ⟨rfl, rfl⟩
      go_wp2
      go_ret2
      exact A.out _ (Below.refl _ _)
    · by_cases h3 : x.2.2.1 = 3
      · have e9 : exitE L pid = 9 := by unfold exitE; rw [hx]; simp only; rw [if_neg h1, if_pos h3]
        have eL : exitL n L pid c = L := by unfold exitL; rw [e9]; rfl
        have eR : exitR n L pid c = [] := by unfold exitR; rw [e9]; rfl
        rw [e9, eL, eR]
        have A := Lib.hid (fun w' => AnsY.none_ (w' := w') h 9)
        rw [h3] at a2
        have hb1 : (pid == 1) = false := by simpa using h1
        clear h hp hx hpx e9 eL eR af h3 h1
        go_enter Try.func18, Try.ntmps18
        go_wp2_with fail
        refine (findY_some H.out hi HP.out).mono ?_
        rintro e w' ⟨rfl, rfl⟩
        go_wp2
        go_ret2
        exact A.out _ (Below.refl _ _)
      · have e0 : exitE L pid = 0 := by unfold exitE; rw [hx]; simp only; rw [if_neg h1, if_neg h3]
        have eL : exitL n L pid c = serveL n (exitM L pid c) := by unfold exitL; rw [if_pos e0]
        have eR : exitR n L pid c = serveR n (exitM L pid c) := by unfold exitR; rw [if_pos e0]
        rw [e0, eL, eR]
        have hb1 : (pid == 1) = false := by simpa using h1
        have hb3 : (x.2.2.1 == 3) = false := by simpa using h3
        obtain ⟨w1, hw1⟩ : ∃ w1, w1 = (w.setCell ⟨p, 2, none⟩ (.int .i64 3)).setCell ⟨p, 3, none⟩ (.int .u32 c) := ⟨_, rfl⟩
        have g1 : w.grownBy w1 (some p) := by rw [hw1]; exact grownBy_trans (grownBy_setCell _ _ _ _) (grownBy_setCell _ _ _ _)
        have hz1 : w1.heap.size = w.heap.size := by rw [hw1]; simp
        have hp1 : w1.heap[p]? = some (prO (x.1, x.2.1, 3, c)) := by rw [hw1]; exact heap_setCell_same _ _ 3 _ _ _ (heap_setCell_same _ _ 2 _ _ _ hpx)
        have hM := h.good.zomS pid c hc
        have T1 : TabAt w1 b m n P (L.map (zomS pid c)) := h.turn hp (x' := (x.1, x.2.1, 3, c)) hp1 (fun k hk hn => g1.block k hk (fun e => hn (Option.some.inj e))) (atN_zomS_same hx) (fun i hi => atN_zomS_other hi) hM (by simp)
        obtain ⟨M, hMM⟩ : ∃ M, M = L.map (zomS pid c) := ⟨_, rfl⟩
        rw [← hMM] at hM T1
        have eM : exitM L pid c = M.map (reUp pid 1) := by rw [hMM]; rfl
        rw [eM]
        have E1 : ExSt w b m n P pid M (1, P, M) w1 := ⟨by simp only; rw [upTo_one hM], by simp only; rw [upTo_one hM]; exact T1, h.low, Only.grown g1 (Or.inr ⟨pid, hp⟩)⟩
        obtain ⟨w2, hw2⟩ : ∃ w2, w2 = (w1.alloc (.cells #[.pointer (some ⟨b, 0, none⟩)] 24)).alloc (.cells #[.pointer (some ⟨p, 0, none⟩)] 72) := ⟨_, rfl⟩
        have hz2 : w2.heap.size = w.heap.size + 2 := by rw [hw2]; simp; omega
        have b2 : Below w1.heap.size w1 w2 := by rw [hw2]; exact below_two _ _ _
        have x1 : w2.heap[w1.heap.size]? = some (boxT b) := by rw [hw2]; exact heap_alloc2_old _ _ _
        have x2 : w2.heap[w1.heap.size + 1]? = some (boxP p) := by rw [hw2]; exact heap_alloc2_new _ _ _
        rw [hz1] at x1 x2
        have E2 := Lib.hid (E1.stay (by omega) b2)
        have X1 := Lib.hid x1
        have X2 := Lib.hid x2
        have HM := Lib.hid hM
        have f2 := af 2
        have f3 := af 3
        clear h hp hx hpx h3 h1 e0 eL eR eM hMM x1 x2 b2 E1 T1 g1 hp1 hM af
        generalize x.2.2.1 = u at *
        generalize x.2.2.2 = u4 at *
        refine (callsIn_wide (n := 20)).1 ?_
        refine callsIn_of_wp_marks Try.func18 rfl trivial ?_ rfl
        simp only [Try.ntmps18, List.size_toArray, List.length_cons, List.length_nil, Nat.reduceAdd, Nat.reduceSub, Array.replicate_succ, Array.replicate_zero, List.push_toArray, List.append_toArray, List.nil_append, List.cons_append]
        gi_wp2
        refine ⟨trivial, ?_⟩
        refine (callsIn_wide.2 (findY_some H.out hi HP.out)).mono ?_
        rintro e w' ⟨rfl, rfl⟩
        gi_wp2
        refine ⟨trivial, ?_⟩
        rw [← hw1]
        clear hw1
        refine (callsIn_wide.2 (mkChildrenY _ _ _)).mono ?_
        rintro e w' ⟨rfl, rfl⟩
        gi_wp2
        rw [← hw2]
        clear hw2
        refine range_g (T := 0) (gf := 34) (lb := #[.pointer (some ⟨w.heap.size, 0, none⟩), .pointer (some ⟨w.heap.size + 1, 0, none⟩)]) rfl (enters Try.func34 rfl rfl) (children_g (T := 0) (by decide) b m w.heap.size (w.heap.size + 1) p n pid w2 X1.out X2.out)
          (fun k hk => ⟨by omega, rfl⟩) (Nat.le_refl _) (by intro _; rfl)
          (ExSt w b m n P pid M) (fun _ _ => False)
          (fun s V V' hh hs => hh.stay (by omega) hs.bel) (fun _ _ _ hh _ => hh)
          (fun s V hh => by
            obtain ⟨j, P', L'⟩ := s
            have e := hh.eq
            simp only [Prod.mk.injEq] at e
            obtain ⟨rfl, rfl⟩ := e
            exact ⟨hh.tab, HP.out⟩)
          (1, P, M) rfl E2.out
          (fun x a' _ => a' = { tmps := #[.pointer (some ⟨b, 0, none⟩), .int .i64 pid, .int .u32 c, undef, undef, undef, .slice none 0 0, .int .i64 0, .pointer (some ⟨p, 0, none⟩), .int .i64 0, .pointer (some ⟨x, 0, none⟩), .tuple #[.pointer (some ⟨p, 0, none⟩), .int .i64 0], .pointer (some ⟨b, 0, none⟩), .int .i64 pid, .tuple #[.pointer (some ⟨p, 0, none⟩), .int .i64 0], .pointer (some ⟨p, 0, none⟩), .int .i64 0, .bool false, .int .i64 0, .bool false, undef, .bool false, .int .i64 pid, .bool false, .bool false, .pointer (some ⟨p, 0, none⟩), .pointer (some ⟨p, 0, none⟩), .pointer (some ⟨p, 2, none⟩), .int .i64 u, .bool false, .pointer (some ⟨p, 0, none⟩), .pointer (some ⟨p, 0, none⟩), .int .u32 c, .pointer (some ⟨p, 0, none⟩), .pointer (some ⟨p, 2, none⟩), .pointer (some ⟨p, 0, none⟩), .pointer (some ⟨p, 3, none⟩), .pointer (some ⟨b, 0, none⟩), .pointer (some ⟨p, 0, none⟩), .func (.func 34) #[] #[.pointer (some ⟨w.heap.size, 0, none⟩), .pointer (some ⟨w.heap.size + 1, 0, none⟩)], .pointer (some ⟨x, 0, none⟩), undef, undef, undef, undef, undef], defers := [] })
          (fun _ _ _ _ _ _ hs _ _ => hs)
          ?assign ?body ?pass ?done ?stop
        case assign =>
          rintro l' s x V C hI hzv hC
          dsimp only [encP]
          gi_wp2
          exact hC _ _ (KeepT.refl _ _ _ _) hI rfl
        case body =>
          rintro l' ⟨j, P', L'⟩ q a' V hI hzv ⟨hr, hq, y, hy, hyp⟩ rfl
          have e := hI.eq
          simp only [Prod.mk.injEq] at e
          obtain ⟨rfl, rfl⟩ := e
          simp only at hq hy hr
          have htab := hI.tab
          simp only at htab
          obtain ⟨y', hy', hqy⟩ := htab.proc hq
          obtain rfl : y = y' := by rw [hy] at hy'; exact Option.some.inj hy'
          obtain ⟨d0, d1, d2, d3, df⟩ := prO_cells hqy
          have g1 := df 1
          have hqw : q < w.heap.size := hI.low q (Or.inr (Or.inr ⟨j, hq⟩))
          have hyM : atN j M = some y := by rw [atN_upTo_ge (Int.le_refl _)] at hy; exact hy
          have V1 : V.grownBy (V.setCell ⟨q, 1, none⟩ (.int .i64 1)) (some q) := grownBy_setCell _ _ _ _
          have NX : ExSt w b m n P' pid M (j + 1, P', M.map (upTo pid (j + 1))) (V.setCell ⟨q, 1, none⟩ (.int .i64 1)) :=
            ⟨rfl, htab.turn hq (x' := (y.1, 1, y.2.2)) (heap_setCell_same _ _ 1 _ _ _ hqy) (fun k hk hn => V1.block k hk (fun e => hn (Option.some.inj e))) (by rw [atN_upTo_same hyM]; unfold reUp; rw [if_pos hyp]) (fun i hi => atN_upTo_other hi) (HM.out.upTo pid (j + 1)) (by simp), hI.low, hI.only.trans (Only.grown V1 (Or.inr ⟨j, hq⟩))⟩
          have KK : KeepT 0 (fun k => k = w.heap.size ∨ k = w.heap.size + 1) w2.heap.size V (V.setCell ⟨q, 1, none⟩ (.int .i64 1)) := KeepT.only (C := fun k => k = q) (Only.grown V1 rfl) (fun k hk => by omega) (fun k o hk _ hB => by omega)
          have NX := Lib.hid NX
          have KK := Lib.hid KK
          clear hI hq hy hy' hqy hyp hyM V1 htab hz1 hz2 df
          gi_wp2
          exact ⟨KK.out, (j + 1, P', M.map (upTo pid (j + 1))), rfl, NX.out⟩
        case pass =>
          rintro ⟨j, P', L'⟩ ⟨j', P2, L2⟩ V hI ⟨⟨he, he2⟩, -, hn⟩
          have e := hI.eq
          simp only [Prod.mk.injEq] at e
          obtain ⟨rfl, rfl⟩ := e
          simp only at he he2 hn
          subst he
          cases he2
          have hup : M.map (upTo pid (j + 1)) = M.map (upTo pid j) := upTo_pass fun x hx hxj => hn x (by rw [atN_upTo_ge (Int.le_refl _), ← hxj]; exact atN_mem HM.out.up hx)
          exact ⟨by simp only; rw [hup], by simp only; rw [hup]; exact hI.tab, hI.low, hI.only⟩
        case done =>
          rintro D ⟨j, P', L'⟩ V hD hf hI hKD
          have e := hI.eq
          simp only [Prod.mk.injEq] at e
          obtain ⟨rfl, rfl⟩ := e
          have hj : j = n + 1 := hf
          subst hj
          have htab := hI.tab
          simp only [upTo_end HM.out] at htab
          have HT := Lib.hid htab
          have HI := Lib.hid hI
          clear hI htab
          gi_wp2
          refine ⟨trivial, ?_⟩
          refine (callsIn_wide.2 (serveY_ok HT.out)).mono ?_
          rintro e V2 ⟨⟨v, rfl, ho⟩, hto⟩
          have hlowD : ∀ k, tB m P' k → k ≠ D := fun k hk => by have := HI.out.low k (Or.inr hk); omega
          have KD2 : V2.heap[D]? = some (.deferred (some [])) := hto.only.kept hKD (fun hk => hlowD D hk rfl)
          obtain ⟨⟨P2, ht2, hs2⟩, ho2⟩ := hto
          have O3 := Lib.hid (own_stay (own_base ho HI.out.only.size) (StayT.put (T := 58) (B := w.heap.size) (.deferred none) KD2 (by simp [kindOf]) (by omega)))
          have T3 := Lib.hid (ht2.putD (.deferred none) KD2)
          have Z3 := Lib.hid hs2
          have W3 : Hid (Only w (V2.putObj D (.deferred none)) (tB m P')) := Lib.hid ((HI.out.only.trans ho2).more (C := fun k => k = D) ⟨rfl, rfl, rfl, by simp [World.putObj], fun k _ hk => World.putObj_heap_other hk⟩ (fun k hk => Or.inr (by omega)))
          clear ho ht2 hs2 ho2
          gi_wp2
          refine ⟨by simp, .inl ⟨_, _, rfl, run_takeDeferred KD2, ?_⟩⟩
          refine ⟨.tuple #[v, .int .i64 0], ?_, ⟨v, rfl, O3.out⟩, ⟨⟨P2, T3.out, fun i q e => (Z3.out i q e).imp id (fun h => Nat.le_trans HI.out.only.size h)⟩, W3.out⟩⟩
          simp [results, Try.results18, go_sem]
        case stop =>
          rintro D c V hD hh hKD
          exact hh.elim
end Go.Proofs.Ytbmiodkdoacbeaa
