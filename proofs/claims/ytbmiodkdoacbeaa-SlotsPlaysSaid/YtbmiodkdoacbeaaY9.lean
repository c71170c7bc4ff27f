/- The contract of package slots' serve. Condition: the table lies as New laid it. Written by gen/gen_y9.py of gen/XY9.body. -/
import Derived.Test.YtbmiodkdoacbeaaY8
import Derived.Deep.RegionHeld3
import Derived.Deep.AppendLies
import Derived.Great.BuildSlice
namespace Go.Proofs.Ytbmiodkdoacbeaa
open Go.RowKit Go.Shelf Go.Maps
attribute [local go_sem] Oper.semAt_some
set_option maxRecDepth 100000

theorem reapInfo : (Try.prog.info? 58).map (fun i => (i.zero, i.size, i.bytes)) = some (some (.agg #[.int .i64 0, .int .i64 0, .int .u32 0]), 3, 24) := by kernel_rfl
def rpV (R : List Rp) : List Value := R.flatMap fun r => [.int .i64 r.1, .int .i64 r.2.1, .int .u32 r.2.2]
theorem rpV_snoc (R : List Rp) (r : Rp) : rpV (R ++ [r]) = rpV R ++ [.int .i64 r.1, .int .i64 r.2.1, .int .u32 r.2.2] := by simp [rpV]
theorem srvR_length (L : List Nd) : ∀ k, (srvR k L).length ≤ k
  | 0 => Nat.le_refl _
  | k + 1 => by
    have := srvR_length L k
    have h2 : (stepR ((k : Int) + 1) (srvL k L)).length ≤ 1 := by unfold stepR; split <;> simp
    show (srvR k L ++ stepR ((k : Int) + 1) (srvL k L)).length ≤ k + 1
    rw [List.length_append]
    omega
theorem own_stay {T : TypeId} {w w' : World} {base k n B : Nat} {v : Value} {xs : List Value} (h : w.ownsRow base T k v n xs) (hw : StayT T B w w') : w'.ownsRow base T k v n xs := by
  refine ⟨h.1, ?_⟩
  rcases h.2 with hn | ⟨g, cap, cur, rfl, hb, hgg, rest⟩
  · exact .inl hn
  · exact .inr ⟨g, cap, cur, rfl, hb, hw.rows g _ hgg rfl, rest⟩
theorem Only.more {a w w' : World} {B C : Nat → Prop} (h : Only a w B) (k : Only w w' C) (hC : ∀ i, C i → B i ∨ a.heap.size ≤ i) : Only a w' B :=
  ⟨k.os.trans h.os, k.tape.trans h.tape, k.output.trans h.output, Nat.le_trans h.size k.size, fun i hi hB => (k.block i (Nat.lt_of_lt_of_le hi h.size) (fun hc => by
    rcases hC i hc with h1 | h1
    · exact hB h1
    · omega)).trans (h.block i hi hB)⟩
theorem new_reap (w : World) (a b c : Int) : ∀ j u, [Value.int .i64 a, .int .i64 b, .int .u32 c][j]? = some u → (w.alloc (.cells #[.int .i64 a, .int .i64 b, .int .u32 c] 58)).drew.cell? ((⟨w.heap.size, 0, none⟩ : Addr).add j) = some u := fun j u hu => by
  rw [Addr.add_mid, Nat.zero_add]
  show (w.alloc (.cells #[.int .i64 a, .int .i64 b, .int .u32 c] 58)).cell? _ = _
  rw [cell_of_row _ _ _ _ _ _ (heap_alloc_new w _)]
  simpa using hu
theorem atN_setSt_same {L : List Nd} {j s : Int} {x : Nd} (h : atN j L = some x) : atN j (L.map (setSt j s)) = some (x.1, x.2.1, s, x.2.2.2) := by
  rw [atN_map (setSt_id j s), h]
  have := (atN_some h).2
  simp [setSt, this]
theorem atN_setSt_other {L : List Nd} {j s i : Int} (hi : i ≠ j) : atN i (L.map (setSt j s)) = atN i L := by
  rw [atN_map (setSt_id j s)]
  cases e : atN i L with
  | none => rfl
  | some x =>
    have := (atN_some e).2
    simp [setSt, show ¬ x.1 = j by omega]

/-- What serve has done so far. -/
structure SvSt (w : World) (b m : Nat) (n : Int) (P : Pt) (L : List Nd) (s : PlY) (V : World) : Prop where
  le : 1 ≤ s.1
  eq : s.2.2 = srvL (s.1 - 1).toNat L
  tab : TabAt V b m n s.2.1 s.2.2
  sub : ∀ id p, s.2.1 id = some p → P id = some p
  low : TabLow w.heap.size b m P
  only : Only w V (tB m P)
  tbox : V.heap[w.heap.size]? = some (boxT b)
  sbox : V.heap[w.heap.size + 1 + 1]? = some (boxT b)
  row : ∃ v, V.heap[w.heap.size + 1]? = some (.cells #[v] 52 (0, 0)) ∧ V.ownsRow w.heap.size 58 3 v (srvR (s.1 - 1).toNat L).length (rpV (srvR (s.1 - 1).toNat L))
theorem SvSt.low' {w : World} {b m : Nat} {n : Int} {P : Pt} {L : List Nd} {s : PlY} {V : World} (h : SvSt w b m n P L s V) : TabLow w.heap.size b m s.2.1 :=
  fun k hk => h.low k (hk.imp id (fun hk => hk.imp id (fun ⟨id, hp⟩ => ⟨id, h.sub id k hp⟩)))
theorem SvSt.stay {w : World} {b m : Nat} {n : Int} {P : Pt} {L : List Nd} {s : PlY} {V V' : World} (h : SvSt w b m n P L s V) {B : Nat} (hB : w.heap.size + 1 + 1 < B) (hs : StayT 58 B V V') : SvSt w b m n P L s V' :=
  ⟨h.le, h.eq, h.tab.step hs.bel (fun k hk => by have := h.low' k hk; omega), h.sub, h.low,
    ⟨hs.bel.os.trans h.only.os, hs.bel.tape.trans h.only.tape, hs.bel.output.trans h.only.output, Nat.le_trans h.only.size hs.bel.size, fun k hk hn => (hs.bel.block k (by omega)).trans (h.only.block k hk hn)⟩,
    (hs.bel.block _ (by omega)).trans h.tbox, (hs.bel.block _ (by omega)).trans h.sbox, by
    obtain ⟨v, h1, h2⟩ := h.row
    exact ⟨v, (hs.bel.block _ (by omega)).trans h1, own_stay h2 hs⟩⟩
theorem SvSt.pass {w : World} {b m : Nat} {n : Int} {P P' : Pt} {L L' : List Nd} {j : Int} {V : World} (h : SvSt w b m n P L (j, P', L') V) (hn : isSrv j L' = none) : SvSt w b m n P L (j + 1, P', L') V := by
  have h1 := h.le
  have h2 := h.eq
  simp only at h1 h2
  have ej : (j + 1 - 1).toNat = (j - 1).toNat + 1 := by omega
  have ek : (((j - 1).toNat : Nat) : Int) + 1 = j := by omega
  have e1 : srvL (j + 1 - 1).toNat L = L' := by rw [ej]; show stepL _ (srvL _ L) = L'; rw [ek, ← h2]; unfold stepL; rw [hn]
  have e2 : srvR (j + 1 - 1).toNat L = srvR (j - 1).toNat L := by rw [ej]; show srvR _ L ++ stepR _ (srvL _ L) = _; rw [ek, ← h2]; unfold stepR; rw [hn]; simp
  exact ⟨by simp only; omega, e1.symm, h.tab, h.sub, h.low, h.only, h.tbox, h.sbox, by simp only [e2]; exact h.row⟩

def ServeY (w : World) (b m : Nat) (n : Int) (P : Pt) (L' : List Nd) (R : List Rp) (e : Ending) (w' : World) : Prop := (∃ v, e = .returned v ∧ w'.ownsRow w.heap.size 58 3 v R.length (rpV R)) ∧ ToY w w' b m n P L'
set_option maxHeartbeats 8000000 in
theorem serveY_ok {w : World} {b m : Nat} {n : Int} {P : Pt} {L : List Nd} (h : TabAt w b m n P L) :
    Calls Try.prog 30 #[.pointer (some ⟨b, 0, none⟩)] w (ServeY w b m n P (serveL n L) (serveR n L)) := by
  obtain ⟨ie, hi, hi0, hi1, hi2⟩ := info_parts reapInfo
  have hmx : Try.prog.follows .mixedOrders = true := by kernel_rfl
  obtain ⟨w2, hw2⟩ : ∃ w2, w2 = (w.alloc (.cells #[.pointer (some ⟨b, 0, none⟩)] 24)).alloc (.cells #[.slice none 0 0] 52) := ⟨_, rfl⟩
  have hz2 : w2.heap.size = w.heap.size + 1 + 1 := by rw [hw2]; simp
  obtain ⟨w3, hw3⟩ : ∃ w3, w3 = w2.alloc (.cells #[.pointer (some ⟨b, 0, none⟩)] 24) := ⟨_, rfl⟩
  have hz3 : w3.heap.size = w.heap.size + 3 := by rw [hw3]; simp; omega
  have b2 : Below w.heap.size w w2 := by rw [hw2]; exact below_two _ _ _
  have b3 : Below w2.heap.size w2 w3 := by rw [hw3]; exact (Below.refl _ _).alloc (Nat.le_refl _) _
  have x1 : w2.heap[w.heap.size]? = some (boxT b) := by rw [hw2]; exact heap_alloc2_old _ _ _
  have x2 : w2.heap[w.heap.size + 1]? = some (.cells #[.slice none 0 0] 52 (0, 0)) := by rw [hw2]; exact heap_alloc2_new _ _ _
  have x3 : w3.heap[w2.heap.size]? = some (boxT b) := by rw [hw3]; exact heap_alloc_new _ _
  rw [hz2] at x3
  have b3' : Below w.heap.size w w3 := b2.trans (b3.mono (by omega))
  have R3 : Hid (SvSt w b m n P L (1, P, L) w3) := Lib.hid ⟨by simp, rfl, h.later b3', fun _ _ e => e, h.low, Only.below b3', (b3.block _ (by omega)).trans x1, x3, _, (b3.block _ (by omega)).trans x2, World.ownsRow_nil _ _ _ _⟩
  have X3 := Lib.hid x3
  have HL := Lib.hid h.low
  have HN := Lib.hid h.good.most
  clear x1 x2 x3 b2 b3 b3' h
  refine (callsIn_wide (n := 16)).1 ?_
  refine callsIn_of_wp_marks Try.func30 rfl trivial ?_ rfl
  simp only [Try.ntmps30, List.size_toArray, List.length_cons, List.length_nil, Nat.reduceAdd, Nat.reduceSub, Array.replicate_succ, Array.replicate_zero, List.push_toArray, List.append_toArray, List.nil_append, List.cons_append]
  gi_wp2
  refine ⟨trivial, ?_⟩
  rw [← hw2]
  clear hw2
  refine (callsIn_wide.2 (mkServedY _ _)).mono ?_
  rintro e w' ⟨rfl, rfl⟩
  gi_wp2
  rw [← hw3]
  clear hw3
  refine range_g (T := 58) (gf := 38) (lb := #[.pointer (some ⟨w.heap.size + 1 + 1, 0, none⟩)]) rfl (enters Try.func38 rfl rfl) (served_g (T := 58) (by decide) b m (w.heap.size + 1 + 1) n w3 X3.out)
    (fun k hk => ⟨by omega, rfl⟩) (Nat.le_refl _) (by intro _; rfl)
    (SvSt w b m n P L) (fun _ _ => False)
    (fun s V V' hh hs => hh.stay (by omega) hs) (fun _ _ _ hh _ => hh)
    (fun s V hh => hh.tab)
    (1, P, L) rfl R3.out
    (fun x a' _ => a' = { tmps := #[.pointer (some ⟨b, 0, none⟩), .pointer (some ⟨w.heap.size, 0, none⟩), .slice none 0 0, .pointer (some ⟨w.heap.size + 1, 0, none⟩), .pointer (some ⟨x.1, 0, none⟩), .pointer (some ⟨x.2, 0, none⟩), .pointer (some ⟨b, 0, none⟩), .func (.func 38) #[] #[.pointer (some ⟨w.heap.size + 1 + 1, 0, none⟩)], .pointer (some ⟨x.1, 0, none⟩), .pointer (some ⟨x.2, 0, none⟩), undef, undef, undef, undef, undef, undef, undef, undef, undef, undef, undef, undef, undef, undef, undef, undef, undef, undef, undef, undef, undef, undef, undef, undef, undef, undef, undef, undef], defers := [] })
    (fun _ _ _ _ _ _ hs _ _ => hs)
    ?assign ?body ?pass ?done ?stop
  case assign =>
    rintro l' s x V C hI hzv hC
    dsimp only [encPP]
    gi_wp2
    exact hC _ _ (KeepT.refl _ _ _ _) hI rfl
  case body =>
    rintro l' ⟨j, P', L'⟩ ⟨p, q⟩ a' V hI hzv ⟨hr, hp, c, hc, hq⟩ rfl
    have htab := hI.tab
    have hlow := hI.low'
    simp only at htab hlow hr hp hc hq
    obtain ⟨⟨x, hx, hx2⟩, hcm, hcp, hc3⟩ := isSrv_some hc
    obtain ⟨x', hx', hpx⟩ := htab.proc hp
    obtain rfl : x = x' := by rw [hx] at hx'; exact Option.some.inj hx'
    obtain ⟨y, hy, hqy⟩ := htab.proc hq
    obtain rfl : c = y := by rw [atN_mem htab.good.up hcm] at hy; exact Option.some.inj hy
    have hx1 := (atN_some hx).2
    have hcj : c.1 ≠ j := fun e => by rw [e, hx] at hy; cases hy; rw [hx2] at hc3; cases hc3
    have hpq : q ≠ p := fun e => hcj (htab.inj (e ▸ hq) hp)
    obtain ⟨v, hl, ho⟩ := hI.row
    have hlt := fun k (hk : v.ownBlock = some k) => ho.lt k hk
    obtain ⟨R, hR⟩ : ∃ R, R = srvR (j - 1).toNat L := ⟨_, rfl⟩
    have hRl : R.length ≤ 8 := by have := srvR_length L (j - 1).toNat; have := HN.out; rw [hR]; omega
    change V.ownsRow w.heap.size 58 3 v (srvR (j - 1).toNat L).length (rpV (srvR (j - 1).toNat L)) at ho
    rw [← hR] at ho
    have hpl := lt_of_block hpx
    have hql := lt_of_block hqy
    have hpw : p < w.heap.size := hlow p (Or.inr (Or.inr ⟨j, hp⟩))
    have hqw : q < w.heap.size := hlow q (Or.inr (Or.inr ⟨c.1, hq⟩))
    have hmw : m < w.heap.size := hlow m (Or.inr (Or.inl rfl))
    have hbw : b < w.heap.size := hlow b (Or.inl rfl)
    obtain ⟨x1, x2, x3, x4⟩ := x
    obtain ⟨c1, c2, c3, c4⟩ := c
    simp only at hx1 hx2 hcj hcp hc3 hy hq
    subst hx1 hx2
    obtain ⟨a0, a1, a2, a3, af⟩ := prO_cells hpx
    obtain ⟨e0, -, -, e3, -⟩ := prO_cells hqy
    simp only at a0 a2 e0 e3
    have f2 := af 2
    obtain ⟨Va, hVa⟩ : ∃ Va, Va = V.setCell ⟨p, 2, none⟩ (.int .i64 1) := ⟨_, rfl⟩
    have ga : V.grownBy Va (some p) := by rw [hVa]; exact grownBy_setCell _ _ _ _
    have za : Va.heap.size = V.heap.size := by rw [hVa]; simp
    have sa : ∀ k, k < V.heap.size → k ≠ p → Va.heap[k]? = V.heap[k]? := fun k hk hn => ga.block k hk (fun e => hn (Option.some.inj e))
    have ta : TabAt Va b m n P' (L'.map (setSt x1 1)) := htab.turn hp (x' := (x1, x2, 1, x4)) (by rw [hVa]; exact heap_setCell_same _ _ 2 _ _ _ hpx) sa (atN_setSt_same hx) (fun i hi => atN_setSt_other hi) (htab.good.setSt x1 1 (by decide)) (by simp)
    have hcm2 : (c1, c2, c3, c4) ∈ L'.map (setSt x1 1) := List.mem_map.2 ⟨_, hcm, by simp [setSt, hcj]⟩
    have hdl := length_delN ta.good.up hcm2
    have q0a : Va.cell? ⟨w.heap.size, 0, none⟩ = some (.pointer (some ⟨b, 0, none⟩)) := cell_of_one ((sa _ (lt_of_block hI.tbox) (by omega)).trans hI.tbox)
    have t1a := ta.c1
    have hqa : Va.heap[q]? = some (prO (c1, c2, c3, c4)) := (sa _ hql hpq).trans hqy
    obtain ⟨g0, -, -, g3, -⟩ := prO_cells hqa
    simp only at g0 g3
    have hpa : Va.heap[p]? = some (prO (x1, x2, 1, x4)) := by
      obtain ⟨z, hz1, hz2⟩ := ta.proc hp
      rw [atN_setSt_same hx] at hz1
      cases hz1
      exact hz2
    have hla : Va.heap[w.heap.size + 1]? = some (.cells #[v] 52 (0, 0)) := (sa _ (lt_of_block hl) (by omega)).trans hl
    have hoa : Va.ownsRow w.heap.size 58 3 v R.length (rpV R) := ownsRow_only ho (Only.grown (B := fun k => k = p) ga rfl) (fun g hg e => by have := (hlt g hg).1; omega)
    have hst : stepL x1 L' = delN c1 (L'.map (setSt x1 1)) := by unfold stepL; rw [hc]
    have hsr : stepR x1 L' = [(x1, c1, c4)] := by unfold stepR; rw [hc]
    have TAD : Hid (ProcsAt Va.drew m P' ((delN c1 (L'.map (setSt x1 1))).length + 1)) := Lib.hid (by rw [hdl]; exact ta.map)
    have HQ := Lib.hid hq
    have HP := Lib.hid hp
    have TA := Lib.hid ta
    have PA := Lib.hid hpa
    have QA := Lib.hid hqa
    have LA := Lib.hid hla
    have OV := Lib.hid ho
    have OVA := Lib.hid hoa
    have GA := Lib.hid ga
    have HI := Lib.hid hI
    have HLT := Lib.hid hlt
    have HR := Lib.hid hR
    have HST := Lib.hid hst
    have HSR := Lib.hid hsr
    have hc8 : 1 ≤ c1 ∧ c1 ≤ 8 := by have h1 := (htab.good.ok _ hcm).1; have h2 := htab.good.most; change 1 ≤ c1 ∧ c1 ≤ n at h1; omega
    clear hpx hqy htab hlow hx hx' hcm hcp hc3 hy hp hq hl ho hlt hR hI ga sa ta hcm2 hdl hqa hpa hla hoa hst hsr hc af
    gi_wp2
    rw [← hVa]
    clear hVa a0 a1 a2 a3 e0 e3 f2
    refine round_reads 8 hmx (by kernel_rfl) (by rfl) ?_
    simp only [List.take_succ_cons, List.take_zero, List.drop_succ_cons, List.drop_zero]
    repeat still_step
    try refine wpStill_nil ?_
    refine wpListIn_proc_drop _ rfl (.tmp 16) (.tmp 20) rfl m _ P' rfl TAD.out c1 rfl hc8 q HQ.out ?_
    intro Vd hm9 hg8
    have hg9 : Va.grownBy Vd (some m) := grownBy_trans (grownBy_of_below (Below.refl _ _).drew _) hg8
    have TD := Lib.hid (TA.out.drop HQ.out hm9 hg9 rfl)
    have GD := Lib.hid hg9
    clear hm9 hg8 hg9
    gi_wp2
    have sd : ∀ k, k < Va.heap.size → k ≠ m → Vd.heap[k]? = Va.heap[k]? := fun k hk hn => GD.out.block k hk (fun e => hn (Option.some.inj e))
    have zd : Va.heap.size ≤ Vd.heap.size := GD.out.size
    have pm : p ≠ m := fun e => TA.out.mapOut x1 (e ▸ HP.out)
    have qm : q ≠ m := fun e => TA.out.mapOut c1 (e ▸ HQ.out)
    have pd : Vd.heap[p]? = some (prO (x1, x2, 1, x4)) := (sd _ (by omega) pm).trans PA.out
    have qd : Vd.heap[q]? = some (prO (c1, c2, c3, c4)) := (sd _ (by omega) qm).trans QA.out
    have ld : Vd.heap[w.heap.size + 1]? = some (.cells #[v] 52 (0, 0)) := (sd _ (lt_of_block LA.out) (by omega)).trans LA.out
    have od : Vd.ownsRow w.heap.size 58 3 v R.length (rpV R) := ownsRow_only OVA.out (Only.grown (w := Va) (B := fun k => k = m) GD.out rfl) (fun g hg e => by have := (HLT.out g hg).1; omega)
    have l0 := cell_of_one ld
    obtain ⟨WA, hWA⟩ : ∃ WA, WA = (Vd.alloc (.cells #[.int .i64 x1, .int .i64 c1, .int .u32 c4] 58)).drew := ⟨_, rfl⟩
    have bw : Below Vd.heap.size Vd WA := by rw [hWA]; exact ((Below.refl _ _).alloc (Nat.le_refl _) _).drew
    have cells3 : ∀ W' : World, W'.heap[p]? = some (prO (x1, x2, 1, x4)) → W'.heap[q]? = some (prO (c1, c2, c3, c4)) → W'.cell? ⟨p, 0, none⟩ = some (.int .i64 x1) ∧ W'.cell? ⟨q, 0, none⟩ = some (.int .i64 c1) ∧ W'.cell? ⟨q, 3, none⟩ = some (.int .u32 c4) := fun W' h1 h2 => ⟨(prO_cells h1).1, (prO_cells h2).1, (prO_cells h2).2.2.2.1⟩
    have SD : Hid (Vd.drew.cell? ⟨p, 0, none⟩ = some (.int .i64 x1) ∧ Vd.drew.cell? ⟨q, 0, none⟩ = some (.int .i64 c1) ∧ Vd.drew.cell? ⟨q, 3, none⟩ = some (.int .u32 c4)) := Lib.hid (cells3 Vd.drew pd qd)
    have SA := Lib.hid (cells3 WA (below_block bw pd) (below_block bw qd))
    have OA := Lib.hid (own_step od bw)
    have NEWS := Lib.hid (new_reap Vd x1 c1 c4)
    have ZA : Hid (w.heap.size ≤ WA.heap.size) := Lib.hid (by have := bw.size; omega)
    have s0 : WA.cell? ⟨w.heap.size + 1, 0, none⟩ = some v := cell_of_one (below_block bw ld)
    have ownk : ∀ g k, v.ownBlock = some g → (k = p ∨ k = q ∨ k = w.heap.size + 1) → g ≠ k := fun g k hg hk e => by
      obtain ⟨cs, hcs⟩ := own_block od hg
      rcases hk with rfl | rfl | rfl
      · have := (HLT.out g hg).1; omega
      · have := (HLT.out g hg).1; omega
      · rw [e, ld] at hcs
        exact absurd (show (some 52 : Option Nat) = some 58 from congrArg kindOf (Option.some.inj hcs)) (by decide)
    have AT4 : Hid (∀ w4, WA.grownBy w4 v.ownBlock → w4.heap[w.heap.size + 1]? = some (.cells #[v] 52 (0, 0))) := Lib.hid (fun w4 hg => (hg.block _ (lt_of_block (below_block bw ld)) (fun e => ownk _ _ e.symm (Or.inr (Or.inr rfl)) rfl)).trans (below_block bw ld))
    have PQ4 : Hid (∀ w4, WA.grownBy w4 v.ownBlock → w4.heap[p]? = some (prO (x1, x2, 1, x4)) ∧ w4.heap[q]? = some (prO (c1, c2, c3, c4))) := Lib.hid (fun w4 hg => ⟨(hg.block _ (lt_of_block (below_block bw pd)) (fun e => ownk _ _ e.symm (Or.inl rfl) rfl)).trans (below_block bw pd), (hg.block _ (lt_of_block (below_block bw qd)) (fun e => ownk _ _ e.symm (Or.inr (Or.inl rfl)) rfl)).trans (below_block bw qd)⟩)
    have S4 : Hid (∀ w4, WA.grownBy w4 v.ownBlock → w4.cell? ⟨p, 0, none⟩ = some (.int .i64 x1) ∧ w4.cell? ⟨q, 0, none⟩ = some (.int .i64 c1) ∧ w4.cell? ⟨q, 3, none⟩ = some (.int .u32 c4)) := Lib.hid (fun w4 hg => cells3 w4 (PQ4.out w4 hg).1 (PQ4.out w4 hg).2)
    have S5 : Hid (∀ w4, WA.grownBy w4 v.ownBlock → ∀ u, (w4.setCell ⟨w.heap.size + 1, 0, none⟩ u).cell? ⟨p, 0, none⟩ = some (.int .i64 x1) ∧ (w4.setCell ⟨w.heap.size + 1, 0, none⟩ u).cell? ⟨q, 0, none⟩ = some (.int .i64 c1) ∧ (w4.setCell ⟨w.heap.size + 1, 0, none⟩ u).cell? ⟨q, 3, none⟩ = some (.int .u32 c4)) := Lib.hid (fun w4 hg u => cells3 _ ((Below.heap_setCell _ _ _ _ (by simp only; omega)).trans (PQ4.out w4 hg).1) ((Below.heap_setCell _ _ _ _ (by simp only; omega)).trans (PQ4.out w4 hg).2))
    have FIN : Hid (∀ u w4, w4.ownsRow w.heap.size 58 3 u (R.length + 1) (rpV R ++ [.int .i64 x1, .int .i64 c1, .int .u32 c4]) → WA.grownBy w4 v.ownBlock → KeepT 58 (fun k => k = w.heap.size + 1 + 1) w3.heap.size V (w4.setCell ⟨w.heap.size + 1, 0, none⟩ u) ∧ ∃ s', (waySv b m n).Nx (x1, P', L') s' ∧ SvSt w b m n P L s' (w4.setCell ⟨w.heap.size + 1, 0, none⟩ u)) := Lib.hid (fun u w4 ho4 hg4 => by
      have l4 := AT4.out w4 hg4
      have o1 : Only Vd (w4.setCell ⟨w.heap.size + 1, 0, none⟩ u) (fun k => k = w.heap.size + 1 ∨ v.ownBlock = some k) := ((Only.below bw).trans ⟨hg4.os, hg4.tape, hg4.output, hg4.size, fun i hi hB => hg4.block i hi (fun e => hB (Or.inr e.symm))⟩).trans (Only.grown (grownBy_setCell _ _ _ _) (Or.inl rfl))
      have o2 : Only V (w4.setCell ⟨w.heap.size + 1, 0, none⟩ u) (fun k => (k = p ∨ k = m) ∨ (k = w.heap.size + 1 ∨ v.ownBlock = some k)) :=
        ((Only.grown (B := fun k => (k = p ∨ k = m) ∨ (k = w.heap.size + 1 ∨ v.ownBlock = some k)) GA.out (Or.inl (Or.inl rfl))).trans (Only.grown (w := Va) GD.out (Or.inl (Or.inr rfl)))).trans (o1.mono fun k hk => Or.inr hk)
      have o5 : (w4.setCell ⟨w.heap.size + 1, 0, none⟩ u).ownsRow w.heap.size 58 3 u (R.length + 1) (rpV R ++ [.int .i64 x1, .int .i64 c1, .int .u32 c4]) := ownsRow_only (B := fun k => k = w.heap.size + 1) ho4 (Only.grown (grownBy_setCell _ _ _ _) rfl) (fun g hg e => by
        obtain ⟨cs, hcs⟩ := own_block ho4 hg
        rw [e, l4] at hcs
        exact absurd (show (some 52 : Option Nat) = some 58 from congrArg kindOf (Option.some.inj hcs)) (by decide))
      have I := HI.out
      refine ⟨KeepT.only o2 (fun k hk e => ?_) (fun k o hk hko hB => ?_), (x1 + 1, updP P' c1 none, stepL x1 L'), rfl, ?_⟩
      · rcases hk with (hk | hk) | (hk | hk)
        · omega
        · omega
        · omega
        · obtain ⟨cs, hcs⟩ := own_block OV.out hk
          rw [e, I.sbox] at hcs
          exact absurd (show (some 24 : Option Nat) = some 58 from congrArg kindOf (Option.some.inj hcs)) (by decide)
      · rcases hk with (hk | hk) | (hk | hk)
        · omega
        · omega
        · omega
        · obtain ⟨cs, hcs⟩ := own_block OV.out hk
          rw [hko] at hcs
          rw [Option.some.inj hcs]
          rfl
      · have h1 := I.le
        have h2 := I.eq
        simp only at h1 h2
        have ej : (x1 + 1 - 1).toNat = (x1 - 1).toNat + 1 := by omega
        have ek : (((x1 - 1).toNat : Nat) : Int) + 1 = x1 := by omega
        have q1 : srvL (x1 + 1 - 1).toNat L = stepL x1 L' := by rw [ej]; show stepL _ (srvL _ L) = _; rw [ek, ← h2]
        have q2 : srvR (x1 + 1 - 1).toNat L = R ++ [(x1, c1, c4)] := by rw [ej]; show srvR _ L ++ stepR _ (srvL _ L) = _; rw [ek, ← h2, HSR.out, HR.out]
        have sub2 : ∀ id k, updP P' c1 none id = some k → P' id = some k := fun id k e => by
          unfold updP at e
          split at e
          · cases e
          · exact e
        have low2 : TabLow w.heap.size b m (updP P' c1 none) := fun k hk => I.low' k (hk.imp id (fun hk => hk.imp id (fun ⟨id, hp⟩ => ⟨id, sub2 id k hp⟩)))
        have keep : ∀ k, k < w.heap.size → (w4.setCell ⟨w.heap.size + 1, 0, none⟩ u).heap[k]? = Vd.heap[k]? := fun k hk => o1.block k (by have := lt_of_block ld; omega) (fun hk2 => by
          rcases hk2 with e | e
          · omega
          · have := (HLT.out k e).1; omega)
        have old : ∀ k o, w.heap.size ≤ k → k ≠ w.heap.size + 1 → V.heap[k]? = some o → kindOf o ≠ some 58 → (w4.setCell ⟨w.heap.size + 1, 0, none⟩ u).heap[k]? = some o := fun k o h1 h2 h3 h4 => o2.kept h3 (by
          rintro ((e | e) | (e | e))
          · omega
          · omega
          · exact h2 e
          · obtain ⟨cs, hcs⟩ := own_block OV.out e
            rw [h3] at hcs
            rw [Option.some.inj hcs] at h4
            exact h4 rfl)
        refine ⟨by simp only; omega, q1.symm, ?_, fun id k e => I.sub id k (sub2 id k e), I.low, I.only.more o2 (fun k hk => ?_), old _ _ (Nat.le_refl _) (by omega) I.tbox (show (some 24 : Option Nat) ≠ some 58 by decide), old _ _ (by omega) (by omega) I.sbox (show (some 24 : Option Nat) ≠ some 58 by decide), u, heap_setCell_same _ _ 0 _ _ _ l4, ?_⟩
        · simp only
          rw [HST.out]
          exact TD.out.kept (keep _ (low2 _ (Or.inl rfl))) (fun k hk => keep k (low2 k (Or.inr hk)))
        · rcases hk with (hk | hk) | (hk | hk)
          · exact Or.inl (Or.inr ⟨x1, hk ▸ I.sub x1 p HP.out⟩)
          · exact Or.inl (Or.inl hk)
          · exact Or.inr (by omega)
          · exact Or.inr (HLT.out k hk).1
        · simp only [q2]
          rw [List.length_append, rpV_snoc]
          exact o5)
    clear sd zd pm qm pd qd ld od cells3 ownk PQ4 g0 g3 q0a t1a bw
    rw [hWA] at SA OA ZA s0 AT4 S4 S5 FIN
    clear hWA
    refine round_held (S := fun w' => w'.cell? ⟨p, 0, none⟩ = some (.int .i64 x1) ∧ w'.cell? ⟨q, 0, none⟩ = some (.int .i64 c1) ∧ w'.cell? ⟨q, 3, none⟩ = some (.int .u32 c4)) hmx (by rfl) (fun ⟨_, _, h⟩ => h) (by exact SD.out) (fun hHeld => ?_)
    refine wpAnyH_take (i := 1) (oi := _) (v := .pointer (some ⟨p, 0, none⟩)) rfl (by kernel_rfl) (by kernel_rfl) (by kernel_rfl) (fun _ _ _ h => h) (Or.inl ⟨by rfl, ?_⟩) (by assumption) ?_
    · intro w hSw
      try dsimp only at hSw
      go_split_ands
      go_simp
    try simp only [Act.put, List.getElem_toArray, List.getElem_cons_zero, List.getElem_cons_succ, List.setIfInBounds_toArray, List.set_cons_zero, List.set_cons_succ]
    refine wpAnyH_take (i := 2) (oi := _) (v := .pointer (some ⟨p, 0, none⟩)) rfl (by kernel_rfl) (by kernel_rfl) (by kernel_rfl) (fun _ _ _ h => h) (Or.inl ⟨by rfl, ?_⟩) (by assumption) ?_
    · intro w hSw
      try dsimp only at hSw
      go_split_ands
      go_simp
    try simp only [Act.put, List.getElem_toArray, List.getElem_cons_zero, List.getElem_cons_succ, List.setIfInBounds_toArray, List.set_cons_zero, List.set_cons_succ]
    refine wpAnyH_take (i := 3) (oi := _) (v := .pointer (some ⟨p, 0, none⟩)) rfl (by kernel_rfl) (by kernel_rfl) (by kernel_rfl) (fun _ _ _ h => h) (Or.inl ⟨by rfl, ?_⟩) (by assumption) ?_
    · intro w hSw
      try dsimp only at hSw
      go_split_ands
      go_simp
    try simp only [Act.put, List.getElem_toArray, List.getElem_cons_zero, List.getElem_cons_succ, List.setIfInBounds_toArray, List.set_cons_zero, List.set_cons_succ]
    refine wpAnyH_take (i := 4) (oi := _) (v := .int .i64 x1) rfl (by kernel_rfl) (by kernel_rfl) (by kernel_rfl) (fun _ _ _ h => h) (Or.inl ⟨by rfl, ?_⟩) (by assumption) ?_
    · intro w hSw
      try dsimp only at hSw
      go_split_ands
      go_simp
    try simp only [Act.put, List.getElem_toArray, List.getElem_cons_zero, List.getElem_cons_succ, List.setIfInBounds_toArray, List.set_cons_zero, List.set_cons_succ]
    refine wpAnyH_take (i := 5) (oi := _) (v := .pointer (some ⟨q, 0, none⟩)) rfl (by kernel_rfl) (by kernel_rfl) (by kernel_rfl) (fun _ _ _ h => h) (Or.inl ⟨by rfl, ?_⟩) (by assumption) ?_
    · intro w hSw
      try dsimp only at hSw
      go_split_ands
      go_simp
    try simp only [Act.put, List.getElem_toArray, List.getElem_cons_zero, List.getElem_cons_succ, List.setIfInBounds_toArray, List.set_cons_zero, List.set_cons_succ]
    refine wpAnyH_take (i := 6) (oi := _) (v := .pointer (some ⟨q, 0, none⟩)) rfl (by kernel_rfl) (by kernel_rfl) (by kernel_rfl) (fun _ _ _ h => h) (Or.inl ⟨by rfl, ?_⟩) (by assumption) ?_
    · intro w hSw
      try dsimp only at hSw
      go_split_ands
      go_simp
    try simp only [Act.put, List.getElem_toArray, List.getElem_cons_zero, List.getElem_cons_succ, List.setIfInBounds_toArray, List.set_cons_zero, List.set_cons_succ]
    refine wpAnyH_take (i := 7) (oi := _) (v := .pointer (some ⟨q, 0, none⟩)) rfl (by kernel_rfl) (by kernel_rfl) (by kernel_rfl) (fun _ _ _ h => h) (Or.inl ⟨by rfl, ?_⟩) (by assumption) ?_
    · intro w hSw
      try dsimp only at hSw
      go_split_ands
      go_simp
    try simp only [Act.put, List.getElem_toArray, List.getElem_cons_zero, List.getElem_cons_succ, List.setIfInBounds_toArray, List.set_cons_zero, List.set_cons_succ]
    refine wpAnyH_take (i := 8) (oi := _) (v := .int .i64 c1) rfl (by kernel_rfl) (by kernel_rfl) (by kernel_rfl) (fun _ _ _ h => h) (Or.inl ⟨by rfl, ?_⟩) (by assumption) ?_
    · intro w hSw
      try dsimp only at hSw
      go_split_ands
      go_simp
    try simp only [Act.put, List.getElem_toArray, List.getElem_cons_zero, List.getElem_cons_succ, List.setIfInBounds_toArray, List.set_cons_zero, List.set_cons_succ]
    refine wpAnyH_take (i := 9) (oi := _) (v := .pointer (some ⟨q, 0, none⟩)) rfl (by kernel_rfl) (by kernel_rfl) (by kernel_rfl) (fun _ _ _ h => h) (Or.inl ⟨by rfl, ?_⟩) (by assumption) ?_
    · intro w hSw
      try dsimp only at hSw
      go_split_ands
      go_simp
    try simp only [Act.put, List.getElem_toArray, List.getElem_cons_zero, List.getElem_cons_succ, List.setIfInBounds_toArray, List.set_cons_zero, List.set_cons_succ]
    refine wpAnyH_take (i := 10) (oi := _) (v := .pointer (some ⟨q, 0, none⟩)) rfl (by kernel_rfl) (by kernel_rfl) (by kernel_rfl) (fun _ _ _ h => h) (Or.inl ⟨by rfl, ?_⟩) (by assumption) ?_
    · intro w hSw
      try dsimp only at hSw
      go_split_ands
      go_simp
    try simp only [Act.put, List.getElem_toArray, List.getElem_cons_zero, List.getElem_cons_succ, List.setIfInBounds_toArray, List.set_cons_zero, List.set_cons_succ]
    refine wpAnyH_take (i := 11) (oi := _) (v := .pointer (some ⟨q, 3, none⟩)) rfl (by kernel_rfl) (by kernel_rfl) (by kernel_rfl) (fun _ _ _ h => h) (Or.inl ⟨by rfl, ?_⟩) (by assumption) ?_
    · intro w hSw
      try dsimp only at hSw
      go_split_ands
      go_simp
    try simp only [Act.put, List.getElem_toArray, List.getElem_cons_zero, List.getElem_cons_succ, List.setIfInBounds_toArray, List.set_cons_zero, List.set_cons_succ]
    refine wpAnyH_take (i := 12) (oi := _) (v := .int .u32 c4) rfl (by kernel_rfl) (by kernel_rfl) (by kernel_rfl) (fun _ _ _ h => h) (Or.inl ⟨by rfl, ?_⟩) (by assumption) ?_
    · intro w hSw
      try dsimp only at hSw
      go_split_ands
      go_simp
    try simp only [Act.put, List.getElem_toArray, List.getElem_cons_zero, List.getElem_cons_succ, List.setIfInBounds_toArray, List.set_cons_zero, List.set_cons_succ]
    refine wpAnyH_take (i := 13) (oi := _) (v := .agg #[.int .i64 x1, .int .i64 c1, .int .u32 c4]) rfl (by kernel_rfl) (by kernel_rfl) (by kernel_rfl) (fun _ _ _ h => h) (Or.inl ⟨by rfl, ?_⟩) (by assumption) ?_
    · intro w hSw
      try dsimp only at hSw
      go_split_ands
      go_simp
    try simp only [Act.put, List.getElem_toArray, List.getElem_cons_zero, List.getElem_cons_succ, List.setIfInBounds_toArray, List.set_cons_zero, List.set_cons_succ]
    refine wpAnyH_ready (rs := [0, 14]) (by kernel_rfl) (by simp) ?_
    refine AllReadyH.cons (o := _) rfl (fun K hK => ?_) (AllReadyH.cons (o := _) rfl (fun K hK => ?_) AllReadyH.nil)
    · go_simp
      refine hK.out _ _ (by exact SD.out) (fun hHeld => ?_)
      clear hK K
      try simp only [Act.put, List.getElem_toArray, List.getElem_cons_zero, List.getElem_cons_succ, List.setIfInBounds_toArray, List.set_cons_zero, List.set_cons_succ]
      refine wpAnyH_ready (rs := [14]) (by kernel_rfl) (by simp) ?_
      refine AllReadyH.cons (o := _) rfl (fun K hK => ?_) AllReadyH.nil
      go_simp
      refine hK.out _ _ (by exact SA.out) (fun hHeld => ?_)
      clear hK K
      try simp only [Act.put, List.getElem_toArray, List.getElem_cons_zero, List.getElem_cons_succ, List.setIfInBounds_toArray, List.set_cons_zero, List.set_cons_succ]
      refine wpAnyH_ready (rs := [15]) (by kernel_rfl) (by simp) ?_
      refine AllReadyH.cons (o := _) rfl (fun K hK => ?_) AllReadyH.nil
      refine step_append_lies _ (by rfl) _ _ _ (by rfl) w.heap.size 58 ie _ 3 24 Try.underlying52 hi hi0 hi1 hi2 rfl (by omega) v R.length (rpV R) (by rfl) OA.out ⟨Vd.heap.size, 0, none⟩ 1 1 [.int .i64 x1, .int .i64 c1, .int .u32 c4] (by rfl) (by rfl) NEWS.out (by simp [Value.oneCell']) (by omega) (by unfold maxLen; omega) (by omega) ZA.out (Vd.heap.size + 1) (by simp) ?_
      intro gg cap w4 ho hg _ _
      have hb4 := AT4.out w4 hg
      have hS4 := S4.out w4 hg
      have OO := Lib.hid ho
      have GG := Lib.hid hg
      have B4 := Lib.hid hb4
      have y1 := cell_of_one hb4
      have f1 := free_of_one hb4
      clear ho hg hb4
      try simp only [Act.put, List.getElem_toArray, List.getElem_cons_zero, List.getElem_cons_succ, List.setIfInBounds_toArray, List.set_cons_zero, List.set_cons_succ]
      refine hK.out _ _ (by exact hS4) (fun hHeld => ?_)
      clear hK K
      try simp only [Act.put, List.getElem_toArray, List.getElem_cons_zero, List.getElem_cons_succ, List.setIfInBounds_toArray, List.set_cons_zero, List.set_cons_succ]
      refine wpAnyH_ready (rs := [16]) (by kernel_rfl) (by simp) ?_
      refine AllReadyH.cons (o := _) rfl (fun K hK => ?_) AllReadyH.nil
      go_simp
      refine hK.out _ _ (by exact S5.out w4 GG.out _) (fun hHeld => ?_)
      clear hK K
      try simp only [Act.put, List.getElem_toArray, List.getElem_cons_zero, List.getElem_cons_succ, List.setIfInBounds_toArray, List.set_cons_zero, List.set_cons_succ]
      refine wpAnyH_done (by kernel_rfl) ?_ _
      gi_wp2
      exact FIN.out _ w4 OO.out GG.out
    · go_simp
      refine hK.out _ _ (by exact SA.out) (fun hHeld => ?_)
      clear hK K
      try simp only [Act.put, List.getElem_toArray, List.getElem_cons_zero, List.getElem_cons_succ, List.setIfInBounds_toArray, List.set_cons_zero, List.set_cons_succ]
      refine wpAnyH_ready (rs := [0]) (by kernel_rfl) (by simp) ?_
      refine AllReadyH.cons (o := _) rfl (fun K hK => ?_) AllReadyH.nil
      go_simp
      refine hK.out _ _ (by exact SA.out) (fun hHeld => ?_)
      clear hK K
      try simp only [Act.put, List.getElem_toArray, List.getElem_cons_zero, List.getElem_cons_succ, List.setIfInBounds_toArray, List.set_cons_zero, List.set_cons_succ]
      refine wpAnyH_ready (rs := [15]) (by kernel_rfl) (by simp) ?_
      refine AllReadyH.cons (o := _) rfl (fun K hK => ?_) AllReadyH.nil
      refine step_append_lies _ (by rfl) _ _ _ (by rfl) w.heap.size 58 ie _ 3 24 Try.underlying52 hi hi0 hi1 hi2 rfl (by omega) v R.length (rpV R) (by rfl) OA.out ⟨Vd.heap.size, 0, none⟩ 1 1 [.int .i64 x1, .int .i64 c1, .int .u32 c4] (by rfl) (by rfl) NEWS.out (by simp [Value.oneCell']) (by omega) (by unfold maxLen; omega) (by omega) ZA.out (Vd.heap.size + 1) (by simp) ?_
      intro gg cap w4 ho hg _ _
      have hb4 := AT4.out w4 hg
      have hS4 := S4.out w4 hg
      have OO := Lib.hid ho
      have GG := Lib.hid hg
      have B4 := Lib.hid hb4
      have y1 := cell_of_one hb4
      have f1 := free_of_one hb4
      clear ho hg hb4
      try simp only [Act.put, List.getElem_toArray, List.getElem_cons_zero, List.getElem_cons_succ, List.setIfInBounds_toArray, List.set_cons_zero, List.set_cons_succ]
      refine hK.out _ _ (by exact hS4) (fun hHeld => ?_)
      clear hK K
      try simp only [Act.put, List.getElem_toArray, List.getElem_cons_zero, List.getElem_cons_succ, List.setIfInBounds_toArray, List.set_cons_zero, List.set_cons_succ]
      refine wpAnyH_ready (rs := [16]) (by kernel_rfl) (by simp) ?_
      refine AllReadyH.cons (o := _) rfl (fun K hK => ?_) AllReadyH.nil
      go_simp
      refine hK.out _ _ (by exact S5.out w4 GG.out _) (fun hHeld => ?_)
      clear hK K
      try simp only [Act.put, List.getElem_toArray, List.getElem_cons_zero, List.getElem_cons_succ, List.setIfInBounds_toArray, List.set_cons_zero, List.set_cons_succ]
      refine wpAnyH_done (by kernel_rfl) ?_ _
      gi_wp2
      exact FIN.out _ w4 OO.out GG.out
  case pass =>
    rintro ⟨j, P', L'⟩ ⟨j', P2, L2⟩ V hI ⟨⟨he, he2⟩, -, hn⟩
    simp only at he he2 hn
    subst he
    cases he2
    exact hI.pass hn
  case done =>
    rintro D ⟨j, P', L'⟩ V hD hf hI hKD
    have hj : j = n + 1 := hf
    subst hj
    obtain ⟨v, hl, ho⟩ := hI.row
    have l0 := cell_of_one hl
    have e1 : (n + 1 - 1).toNat = n.toNat := by omega
    simp only [e1] at ho
    have hE := hI.eq
    simp only [e1] at hE
    have hS := hI.stay (B := w.heap.size + 3) (by omega) (StayT.put (T := 58) (.deferred none) hKD (by simp [kindOf]) (by omega))
    have HS := Lib.hid hS
    have HO := Lib.hid (own_stay ho (StayT.put (T := 58) (B := w.heap.size + 3) (.deferred none) hKD (by simp [kindOf]) (by omega)))
    have HE := Lib.hid hE
    clear hI hl ho hE hS
    gi_wp2
    refine ⟨by simp, .inl ⟨_, _, rfl, run_takeDeferred hKD, ?_⟩⟩
    refine ⟨v, ?_, ⟨v, rfl, HO.out⟩, ⟨⟨P', by have := HS.out.tab; simp only at this; rw [HE.out] at this; exact this, fun id p e => Or.inl (HS.out.sub id p e)⟩, HS.out.only⟩⟩
    simp [results, Try.results30, go_sem]
  case stop =>
    rintro D c V hD hh hKD
    exact hh.elim
end Go.Proofs.Ytbmiodkdoacbeaa
