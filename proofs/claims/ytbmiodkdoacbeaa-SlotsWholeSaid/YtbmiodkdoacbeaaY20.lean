/- What every script keeps of a table: who waits has children, none of them a zombie; a zombie has none; all lead to 1. Lists alone. -/
import Derived.Test.YtbmiodkdoacbeaaY19
namespace Go.Proofs.Ytbmiodkdoacbeaa
open Go.RowKit
set_option maxRecDepth 100000

/-- In the midst of serving: those of numbers up to k are served. -/
structure Wh (k : Int) (L : List Nd) : Prop where
  first : ∃ x, atN 1 L = some x ∧ x.2.1 = 0 ∧ x.2.2.1 ≠ 3
  wait : ∀ x ∈ L, x.2.2.1 = 2 → hasCh x.1 L = true ∧ (x.1 ≤ k → zomb x.1 L = none)
  zom : ∀ x ∈ L, x.2.2.1 = 3 → ∀ y ∈ L, y.2.1 ≠ x.1
  code : ∀ x ∈ L, x.2.2.1 ≠ 3 → x.2.2.2 = 0
  tree : ∃ f : Int → Nat, f 1 = 0 ∧ ∀ x ∈ L, x.1 ≠ 1 → ∃ y ∈ L, y.1 = x.2.1 ∧ f y.1 < f x.1
theorem hasCh_iff {j : Int} {L : List Nd} : hasCh j L = true ↔ ∃ y ∈ L, y.2.1 = j := by unfold hasCh; rw [List.any_eq_true]; simp
theorem zomb_none {j : Int} {L : List Nd} : zomb j L = none ↔ ∀ y ∈ L, ¬ (y.2.1 = j ∧ y.2.2.1 = 3) := by unfold zomb; rw [List.find?_eq_none]; simp
theorem uniq_pid {L : List Nd} (hp : L.Pairwise (fun a b => a.1 < b.1)) {x y : Nd} (hx : x ∈ L) (hy : y ∈ L) (h : x.1 = y.1) : x = y := by
  have h1 := atN_mem hp hx
  have h2 := atN_mem hp hy
  rw [h, h2] at h1
  exact (Option.some.inj h1).symm
theorem Wh.begin_ : Wh 8 [(1, 0, 1, 0)] := ⟨⟨_, rfl, rfl, by decide⟩, by simp, by simp, by simp, fun _ => 0, rfl, by simp⟩
theorem Wh.less {k j : Int} {L : List Nd} (h : Wh k L) (hj : j ≤ k) : Wh j L := ⟨h.first, fun x hx h2 => ⟨(h.wait x hx h2).1, fun hk => (h.wait x hx h2).2 (by omega)⟩, h.zom, h.code, h.tree⟩
/-- One is served, or is not. -/
theorem Wh.step {k : Int} {L : List Nd} (h : Wh k L) (hp : L.Pairwise (fun a b => a.1 < b.1)) : Wh (k + 1) (stepL (k + 1) L) := by
  unfold stepL
  cases hs : isSrv (k + 1) L with
  | none =>
    refine ⟨h.first, fun x hx h2 => ⟨(h.wait x hx h2).1, fun hk => ?_⟩, h.zom, h.code, h.tree⟩
    by_cases c : x.1 = k + 1
    · unfold isSrv at hs
      rw [← c, atN_mem hp hx] at hs
      simp only at hs
      rw [if_pos h2] at hs
      exact hs
    · exact (h.wait x hx h2).2 (by omega)
  | some c =>
    obtain ⟨⟨p, hpj, hp2⟩, hcm, hcp, hc3⟩ := isSrv_some hs
    have hpm := (atN_some hpj).1
    have hp1 := (atN_some hpj).2
    have hcj : c.1 ≠ k + 1 := fun e => by
      have := uniq_pid hp hcm hpm (by omega)
      rw [this, hp2] at hc3
      cases hc3
    have hc1 : c.1 ≠ 1 := fun e => by
      obtain ⟨x, hx, -, hx3⟩ := h.first
      have := uniq_pid hp hcm (atN_some hx).1 (by rw [e]; exact (atN_some hx).2.symm)
      rw [this] at hc3
      exact hx3 hc3
    have mem : ∀ z, z ∈ delN c.1 (L.map (setSt (k + 1) 1)) → ∃ x ∈ L, z = setSt (k + 1) 1 x ∧ x.1 ≠ c.1 := fun z hz => by
      obtain ⟨h1, h2⟩ := mem_delN.1 hz
      obtain ⟨x, hx, rfl⟩ := List.mem_map.1 h1
      rw [setSt_id] at h2
      exact ⟨x, hx, rfl, h2⟩
    have inn : ∀ x, x ∈ L → x.1 ≠ c.1 → setSt (k + 1) 1 x ∈ delN c.1 (L.map (setSt (k + 1) 1)) := fun x hx hn => mem_delN.2 ⟨List.mem_map.2 ⟨x, hx, rfl⟩, by rw [setSt_id]; exact hn⟩
    have up : ∀ x : Nd, (setSt (k + 1) 1 x).2.1 = x.2.1 := fun x => by unfold setSt; split <;> rfl
    have cd : ∀ x : Nd, (setSt (k + 1) 1 x).2.2.2 = x.2.2.2 := fun x => by unfold setSt; split <;> rfl
    have st : ∀ x : Nd, x.1 ≠ k + 1 → (setSt (k + 1) 1 x) = x := fun x hn => by unfold setSt; rw [if_neg hn]
    have st1 : ∀ x : Nd, x.1 = k + 1 → (setSt (k + 1) 1 x).2.2.1 = 1 := fun x hn => by unfold setSt; rw [if_pos hn]
    refine ⟨?_, ?_, ?_, ?_, ?_⟩
    · obtain ⟨x, hx, h0, h3⟩ := h.first
      refine ⟨setSt (k + 1) 1 x, by rw [atN_delN, if_neg (fun e => hc1 e.symm), atN_map (setSt_id _ _), hx]; rfl, by rw [up]; exact h0, ?_⟩
      by_cases e : x.1 = k + 1
      · rw [st1 x e]; decide
      · rw [st x e]; exact h3
    · intro z hz h2
      obtain ⟨x, hx, rfl, hn⟩ := mem z hz
      by_cases e : x.1 = k + 1
      · rw [st1 x e] at h2; cases h2
      · rw [st x e] at h2
        obtain ⟨w1, w2⟩ := h.wait x hx h2
        rw [setSt_id]
        refine ⟨?_, fun hk => ?_⟩
        · obtain ⟨y, hy, hyx⟩ := hasCh_iff.1 w1
          refine hasCh_iff.2 ⟨_, inn y hy (fun e2 => ?_), by rw [up]; exact hyx⟩
          have := uniq_pid hp hy hcm e2
          rw [this, hcp] at hyx
          omega
        · rw [zomb_none]
          rintro y hy ⟨y1, y3⟩
          obtain ⟨y', hy', rfl, -⟩ := mem y hy
          rw [up] at y1
          by_cases e2 : y'.1 = k + 1
          · rw [st1 y' e2] at y3; cases y3
          · rw [st y' e2] at y3
            exact zomb_none.1 (w2 (by omega)) y' hy' ⟨y1, y3⟩
    · intro z hz h3 y hy
      obtain ⟨x, hx, rfl, hn⟩ := mem z hz
      obtain ⟨y', hy', rfl, -⟩ := mem y hy
      rw [up, setSt_id]
      by_cases e : x.1 = k + 1
      · rw [st1 x e] at h3; cases h3
      · rw [st x e] at h3
        exact h.zom x hx h3 y' hy'
    · intro z hz h3
      obtain ⟨x, hx, rfl, hn⟩ := mem z hz
      rw [cd]
      by_cases e : x.1 = k + 1
      · have : x = p := uniq_pid hp hx hpm (by omega)
        exact h.code x hx (by rw [this, hp2]; decide)
      · rw [st x e] at h3
        exact h.code x hx h3
    · obtain ⟨f, f0, hf⟩ := h.tree
      refine ⟨f, f0, fun z hz hz1 => ?_⟩
      obtain ⟨x, hx, rfl, hn⟩ := mem z hz
      rw [setSt_id] at hz1 ⊢
      obtain ⟨y, hy, hy1, hy2⟩ := hf x hx hz1
      refine ⟨_, inn y hy (fun e => ?_), by rw [setSt_id, up]; exact hy1, by rw [setSt_id]; exact hy2⟩
      have := uniq_pid hp hy hcm e
      subst this
      exact h.zom y hy hc3 x hx hy1.symm
theorem Wh.srv {n : Int} {L : List Nd} (hg : GoodY n L) (h : Wh 0 L) : ∀ k : Nat, Wh (k : Int) (srvL k L)
  | 0 => h
  | k + 1 => by
    have := (Wh.srv hg h k).step (hg.srv k).up
    push_cast
    exact this
theorem Wh.serve {n : Int} {L : List Nd} (hg : GoodY n L) (h : Wh 0 L) : Wh 8 (serveL n L) := by
  have h1 := Wh.srv hg h n.toNat
  have h2 := (hg.srv n.toNat).ok
  have hm := hg.most
  have e : ((n.toNat : Nat) : Int) = n := by omega
  rw [e] at h1
  exact ⟨h1.first, fun x hx hw => ⟨(h1.wait x hx hw).1, fun _ => (h1.wait x hx hw).2 (h2 x hx).1.2⟩, h1.zom, h1.code, h1.tree⟩
theorem Wh.add {n : Int} {L : List Nd} (hg : GoodY n L) (h : Wh 8 L) (parent : Int) : Wh 8 (addL n L parent) := by
  unfold addL
  by_cases e : addE n L parent = 0
  · rw [if_pos e]
    unfold addE at e
    cases hp : atN parent L with
    | none => simp [hp] at e
    | some p =>
      simp only [hp] at e
      split at e
      · cases e
      · rename_i h3
        split at e
        · cases e
        · rename_i hl
          obtain ⟨hf, hno⟩ := hg.free hl
          have hpm := (atN_some hp).1
          have hp1 := (atN_some hp).2
          obtain ⟨x1, hx1, hx10, hx13⟩ := h.first
          have h11 : freeN 1 L ≠ 1 := fun e => hno x1 (atN_some hx1).1 (by rw [e]; exact (atN_some hx1).2)
          refine ⟨⟨x1, by rw [atN_insN hno, if_neg (fun e => h11 e.symm)]; exact hx1, hx10, hx13⟩, fun x hx h2 => ?_, fun x hx hx3 y hy => ?_, fun x hx hx3 => ?_, ?_⟩
          · rcases mem_insN.1 hx with rfl | hx
            · cases h2
            · obtain ⟨w1, w2⟩ := h.wait x hx h2
              refine ⟨?_, fun hk => ?_⟩
              · obtain ⟨y, hy, hyx⟩ := hasCh_iff.1 w1
                exact hasCh_iff.2 ⟨y, mem_insN.2 (Or.inr hy), hyx⟩
              · rw [zomb_none]
                rintro y hy ⟨y1, y3⟩
                rcases mem_insN.1 hy with rfl | hy
                · cases y3
                · exact zomb_none.1 (w2 hk) y hy ⟨y1, y3⟩
          · rcases mem_insN.1 hx with rfl | hx
            · cases hx3
            · rcases mem_insN.1 hy with rfl | hy
              · intro e2
                have : p = x := uniq_pid hg.up hpm hx (by rw [hp1]; exact e2)
                rw [this] at h3
                exact h3 hx3
              · exact h.zom x hx hx3 y hy
          · rcases mem_insN.1 hx with rfl | hx
            · rfl
            · exact h.code x hx hx3
          · obtain ⟨f, f0, hft⟩ := h.tree
            refine ⟨fun i => if i = freeN 1 L then f parent + 1 else f i, by simp only; rw [if_neg (fun e => h11 e.symm)]; exact f0, fun x hx hxn => ?_⟩
            rcases mem_insN.1 hx with rfl | hx
            · refine ⟨p, mem_insN.2 (Or.inr hpm), hp1, ?_⟩
              simp only
              rw [if_pos trivial, if_neg (hno p hpm), hp1]
              omega
            · obtain ⟨y, hy, hy1, hy2⟩ := hft x hx hxn
              refine ⟨y, mem_insN.2 (Or.inr hy), hy1, ?_⟩
              simp only
              rw [if_neg (hno y hy), if_neg (hno x hx)]
              exact hy2
  · rw [if_neg e]; exact h
theorem Wh.wait_ {n : Int} {L : List Nd} (hg : GoodY n L) (h : Wh 8 L) (pid : Int) : Wh 8 (waitL n L pid) := by
  unfold waitL
  by_cases e : waitE L pid = 0
  · rw [if_pos e]
    unfold waitE at e
    cases hp : atN pid L with
    | none => simp [hp] at e
    | some p =>
      simp only [hp] at e
      split at e
      · rename_i hch
        split at e
        · rename_i h1
          have hpm := (atN_some hp).1
          have hp1 := (atN_some hp).2
          have up : ∀ x : Nd, (setSt pid 2 x).2.1 = x.2.1 := fun x => by unfold setSt; split <;> rfl
          have cd : ∀ x : Nd, (setSt pid 2 x).2.2.2 = x.2.2.2 := fun x => by unfold setSt; split <;> rfl
          have st : ∀ x : Nd, x.1 ≠ pid → (setSt pid 2 x) = x := fun x hn => by unfold setSt; rw [if_neg hn]
          have st1 : ∀ x : Nd, x.1 = pid → (setSt pid 2 x).2.2.1 = 2 := fun x hn => by unfold setSt; rw [if_pos hn]
          refine Wh.serve (hg.setSt pid 2 (by decide)) ⟨?_, ?_, ?_, ?_, ?_⟩
          · obtain ⟨x, hx, h0, h3⟩ := h.first
            refine ⟨setSt pid 2 x, by rw [atN_map (setSt_id _ _), hx]; rfl, by rw [up]; exact h0, ?_⟩
            by_cases e : x.1 = pid
            · rw [st1 x e]; decide
            · rw [st x e]; exact h3
          · intro z hz h2
            obtain ⟨x, hx, rfl⟩ := List.mem_map.1 hz
            have hch2 : hasCh x.1 L = true := by
              by_cases e : x.1 = pid
              · rw [e]; exact hch
              · rw [st x e] at h2; exact (h.wait x hx h2).1
            rw [setSt_id]
            refine ⟨?_, fun hk => ?_⟩
            · obtain ⟨y, hy, hyx⟩ := hasCh_iff.1 hch2
              exact hasCh_iff.2 ⟨_, List.mem_map.2 ⟨y, hy, rfl⟩, by rw [up]; exact hyx⟩
            · have := (hg.ok x hx).1.1
              omega
          · intro z hz h3 y hy
            obtain ⟨x, hx, rfl⟩ := List.mem_map.1 hz
            obtain ⟨y', hy', rfl⟩ := List.mem_map.1 hy
            rw [up, setSt_id]
            by_cases e : x.1 = pid
            · rw [st1 x e] at h3; cases h3
            · rw [st x e] at h3; exact h.zom x hx h3 y' hy'
          · intro z hz h3
            obtain ⟨x, hx, rfl⟩ := List.mem_map.1 hz
            rw [cd]
            by_cases e : x.1 = pid
            · have : x = p := uniq_pid hg.up hx hpm (by omega)
              exact h.code x hx (by rw [this, h1]; decide)
            · rw [st x e] at h3; exact h.code x hx h3
          · obtain ⟨f, f0, hf⟩ := h.tree
            refine ⟨f, f0, fun z hz hz1 => ?_⟩
            obtain ⟨x, hx, rfl⟩ := List.mem_map.1 hz
            rw [setSt_id] at hz1 ⊢
            obtain ⟨y, hy, hy1, hy2⟩ := hf x hx hz1
            exact ⟨_, List.mem_map.2 ⟨y, hy, rfl⟩, by rw [setSt_id, up]; exact hy1, by rw [setSt_id]; exact hy2⟩
        · cases e
      · cases e
  · rw [if_neg e]; exact h
theorem Wh.exit_ {n : Int} {L : List Nd} (hg : GoodY n L) (h : Wh 8 L) (pid : Int) {c : Int} (hc : 0 ≤ c ∧ c ≤ 4294967295) : Wh 8 (exitL n L pid c) := by
  unfold exitL
  by_cases e : exitE L pid = 0
  · rw [if_pos e]
    unfold exitE at e
    cases hp : atN pid L with
    | none => simp [hp] at e
    | some p =>
      simp only [hp] at e
      split at e
      · cases e
      · rename_i h1
        have hpm := (atN_some hp).1
        have hp1 := (atN_some hp).2
        obtain ⟨g, hgd⟩ : ∃ g : Nd → Nd, g = fun x => reUp pid 1 (zomS pid c x) := ⟨_, rfl⟩
        have eM : exitM L pid c = L.map g := by unfold exitM; rw [List.map_map, hgd]; rfl
        have gid : ∀ x, (g x).1 = x.1 := fun x => by rw [hgd]; simp only; rw [reUp_id, zomS_id]
        have gup : ∀ x : Nd, (x.2.1 = pid ∧ (g x).2.1 = 1) ∨ (x.2.1 ≠ pid ∧ (g x).2.1 = x.2.1) := fun x => by
          rw [hgd]
          have hz : (zomS pid c x).2.1 = x.2.1 := by unfold zomS; split <;> rfl
          simp only
          unfold reUp
          rw [hz]
          by_cases e : x.2.1 = pid
          · rw [if_pos e]; exact Or.inl ⟨e, rfl⟩
          · rw [if_neg e]; exact Or.inr ⟨e, hz⟩
        have gst : ∀ x : Nd, (g x).2.2 = (zomS pid c x).2.2 := fun x => by rw [hgd]; simp only; unfold reUp; split <;> rfl
        have gs1 : ∀ x : Nd, x.1 = pid → (g x).2.2.1 = 3 := fun x hn => by rw [gst]; unfold zomS; rw [if_pos hn]
        have gs2 : ∀ x : Nd, x.1 ≠ pid → (g x).2.2 = x.2.2 := fun x hn => by rw [gst]; unfold zomS; rw [if_neg hn]
        obtain ⟨x1, hx1, hx10, hx13⟩ := h.first
        have h1m := (atN_some hx1).1
        have h11 := (atN_some hx1).2
        have hpid := (hg.at_ hp).1
        have hgM := hg.exitM pid hc
        rw [eM] at hgM ⊢
        refine Wh.serve hgM ⟨?_, ?_, ?_, ?_, ?_⟩
        · refine ⟨g x1, by rw [atN_map gid, hx1]; rfl, ?_, by rw [gs2 x1 (by omega)]; exact hx13⟩
          rcases gup x1 with ⟨e, -⟩ | ⟨-, e⟩
          · omega
          · rw [e]; exact hx10
        · intro z hz h2
          obtain ⟨x, hx, rfl⟩ := List.mem_map.1 hz
          by_cases e : x.1 = pid
          · rw [gs1 x e] at h2; cases h2
          · rw [gs2 x e] at h2
            rw [gid]
            refine ⟨?_, fun hk => ?_⟩
            · obtain ⟨y, hy, hyx⟩ := hasCh_iff.1 (h.wait x hx h2).1
              refine hasCh_iff.2 ⟨_, List.mem_map.2 ⟨y, hy, rfl⟩, ?_⟩
              rcases gup y with ⟨e2, -⟩ | ⟨-, e2⟩
              · omega
              · rw [e2]; exact hyx
            · have := (hg.ok x hx).1.1
              omega
        · intro z hz h3 y hy
          obtain ⟨x, hx, rfl⟩ := List.mem_map.1 hz
          obtain ⟨y', hy', rfl⟩ := List.mem_map.1 hy
          rw [gid]
          have hx1' : x.1 ≠ 1 := fun e => by
            have : x = x1 := uniq_pid hg.up hx h1m (by omega)
            rw [this, gs2 x1 (by omega)] at h3
            exact hx13 h3
          rcases gup y' with ⟨e2, e3⟩ | ⟨e2, e3⟩
          · rw [e3]; exact fun e => hx1' e.symm
          · rw [e3]
            by_cases e : x.1 = pid
            · rw [e]; exact e2
            · rw [gs2 x e] at h3
              exact h.zom x hx h3 y' hy'
        · intro z hz h3
          obtain ⟨x, hx, rfl⟩ := List.mem_map.1 hz
          by_cases e : x.1 = pid
          · exact absurd (gs1 x e) h3
          · rw [gs2 x e] at h3 ⊢
            exact h.code x hx h3
        · obtain ⟨f, f0, hf⟩ := h.tree
          refine ⟨f, f0, fun z hz hz1 => ?_⟩
          obtain ⟨x, hx, rfl⟩ := List.mem_map.1 hz
          rw [gid] at hz1 ⊢
          obtain ⟨y, hy, hy1, hy2⟩ := hf x hx hz1
          rcases gup x with ⟨e2, e3⟩ | ⟨e2, e3⟩
          · exact ⟨_, List.mem_map.2 ⟨x1, h1m, rfl⟩, by rw [gid, e3]; exact h11, by rw [gid, h11, f0]; omega⟩
          · exact ⟨_, List.mem_map.2 ⟨y, hy, rfl⟩, by rw [gid, e3]; exact hy1, by rw [gid]; exact hy2⟩
  · rw [if_neg e]; exact h

/-! Who is learned of. -/
theorem step_pids {j i : Int} {L : List Nd} (h : atN i L = none) : atN i (stepL j L) = none := by
  unfold stepL
  split
  · exact h
  · rw [atN_delN]
    split
    · rfl
    · rw [atN_map (setSt_id _ _), h]; rfl
theorem srv_pids {i : Int} {L : List Nd} (h : atN i L = none) : ∀ k, atN i (srvL k L) = none
  | 0 => h
  | k + 1 => step_pids (srv_pids h k)
theorem srv_reaped {n : Int} {L : List Nd} (hg : GoodY n L) : ∀ (k : Nat) (r : Rp), r ∈ srvR k L → atN r.2.1 L ≠ none ∧ atN r.2.1 (srvL k L) = none ∧ ∃ x, atN r.1 (srvL k L) = some x ∧ x.2.2.1 ≠ 3
  | 0, r, h => by simp [srvR] at h
  | k + 1, r, h => by
    have hk := hg.srv k
    have keep : ∀ i x, atN i (srvL k L) = some x → x.2.2.1 ≠ 3 → ∃ x, atN i (stepL ((k : Int) + 1) (srvL k L)) = some x ∧ x.2.2.1 ≠ 3 := fun i x hx h3 => by
      unfold stepL
      cases hs : isSrv ((k : Int) + 1) (srvL k L) with
      | none => exact ⟨x, hx, h3⟩
      | some c =>
        obtain ⟨-, hcm, -, hc3⟩ := isSrv_some hs
        have hne : i ≠ c.1 := fun e => by
          have := uniq_pid hk.up hcm (atN_some hx).1 (by rw [(atN_some hx).2]; exact e.symm)
          rw [this] at hc3
          exact h3 hc3
        refine ⟨setSt ((k : Int) + 1) 1 x, by rw [atN_delN, if_neg hne, atN_map (setSt_id _ _), hx]; rfl, ?_⟩
        unfold setSt
        split
        · exact (show (1 : Int) ≠ 3 by decide)
        · exact h3
    rcases List.mem_append.1 h with h | h
    · obtain ⟨h1, h2, x, h3, h4⟩ := srv_reaped hg k r h
      exact ⟨h1, step_pids h2, keep r.1 x h3 h4⟩
    · unfold stepR at h
      cases hs : isSrv ((k : Int) + 1) (srvL k L) with
      | none => rw [hs] at h; simp at h
      | some c =>
        rw [hs] at h
        simp only [List.mem_singleton] at h
        subst h
        obtain ⟨⟨p, hpj, hp2⟩, hcm, hcp, hc3⟩ := isSrv_some hs
        refine ⟨fun e => ?_, ?_, keep _ p hpj (by rw [hp2]; decide)⟩
        · have := srv_pids e k
          rw [atN_mem hk.up hcm] at this
          cases this
        · show atN c.1 (stepL ((k : Int) + 1) (srvL k L)) = none
          unfold stepL
          rw [hs]
          simp only
          rw [atN_delN, if_pos rfl]
theorem exit_reaped {n : Int} {L : List Nd} (hg : GoodY n L) (pid : Int) {c : Int} (hc : 0 ≤ c ∧ c ≤ 4294967295) {r : Rp} (h : r ∈ exitR n L pid c) : atN r.2.1 L ≠ none ∧ atN r.2.1 (exitL n L pid c) = none ∧ atN r.1 (exitL n L pid c) ≠ none := by
  unfold exitR at h
  unfold exitL
  split at h
  · rename_i e
    rw [if_pos e]
    obtain ⟨h1, h2, x, h3, -⟩ := srv_reaped (hg.exitM pid hc) _ r h
    refine ⟨fun e2 => h1 ?_, h2, by rw [show serveL n (exitM L pid c) = srvL n.toNat (exitM L pid c) from rfl, h3]; simp⟩
    unfold exitM
    rw [atN_map (reUp_id _ _), atN_map (zomS_id _ _), e2]
    rfl
  · simp at h
theorem wait_reaped {n : Int} {L : List Nd} (hg : GoodY n L) (pid : Int) {r : Rp} (h : r ∈ waitR n L pid) : atN r.2.1 L ≠ none ∧ atN r.2.1 (waitL n L pid) = none ∧ atN r.1 (waitL n L pid) ≠ none := by
  unfold waitR at h
  unfold waitL
  split at h
  · rename_i e
    rw [if_pos e]
    obtain ⟨h1, h2, x, h3, -⟩ := srv_reaped (hg.setSt pid 2 (by decide)) _ r h
    refine ⟨fun e2 => h1 ?_, h2, by rw [show serveL n (L.map (setSt pid 2)) = srvL n.toNat (L.map (setSt pid 2)) from rfl, h3]; simp⟩
    rw [atN_map (setSt_id _ _), e2]
    rfl
  · simp at h
end Go.Proofs.Ytbmiodkdoacbeaa
