/- Texts of mine, joined: S43 S44 S46. What each says and under which conditions stands at its head, below. -/
import Derived.Test.YtfpcoomkbmfchaaGreatDoorHT
import Derived.Test.YtfpcoomkbmfchaaGreatDoorGE13
/- The contract of the laws' see: what loads answer, in order. No condition. -/
namespace Go.Proofs.YtfpcoomkbmfchaaGreatDoor
open Go.RowKit Go.Maps
set_option maxRecDepth 100000

/-- Words in a row. -/
def seeV (f : Nat → Int) (n : Nat) : List Value := (List.range n).map fun k => .int .u32 (f k)
theorem seeV_snoc (f : Nat → Int) (n : Nat) : seeV f (n + 1) = seeV f n ++ [.int .u32 (f n)] := by unfold seeV; rw [List.range_succ, List.map_append]; rfl
theorem seeV_get (f : Nat → Int) (n k : Nat) (h : k < n) : (seeV f n)[k]? = some (.int .u32 (f k)) := by simp [seeV, h]
theorem below_of_none {w w' : World} (h : w.grownBy w' none) : Below w.heap.size w w' := ⟨h.os, h.tape, h.output, h.size, fun k hk => h.block k hk (by simp)⟩
theorem KeepB.ownNew {w V V' : World} {g : Nat} (h : KeepB w V) (hg : w.heap.size ≤ g) (k : V.grownBy V' (some g)) : KeepB w V' :=
  ⟨⟨k.os.trans h.only.os, k.tape.trans h.only.tape, k.output.trans h.only.output, Nat.le_trans h.only.size k.size, fun j hj hB => (k.block j (Nat.lt_of_lt_of_le hj h.only.size) (fun e => by have := Option.some.inj e; omega)).trans (h.only.block j hj hB)⟩⟩
set_option maxHeartbeats 4000000 in
theorem see_ok (ss : Nat) (pid : Int) (b o cp n : Nat) (hn : n ≤ 1000) (g f : Nat → Int) (Inv : World → Prop) (w : World)
    (hcell : ∀ V, Inv V → ∀ k, k < n → V.cell? ⟨b, o + k, none⟩ = some (.int .u32 (g k)))
    (hstep : ∀ V V', Inv V → Below V.heap.size V V' → Inv V')
    (hown : ∀ V V' g cs, Inv V → V.heap[g]? = some (.cells cs 25 (0, 0)) → w.heap.size ≤ g → V.grownBy V' (some g) → Inv V')
    (hload : ∀ V k, k < n → Inv V → Calls Tryz.prog 12 #[.pointer (some ⟨ss, 0, none⟩), .int .i64 pid, .int .u32 (g k)] V fun e w' => ∃ er, e = .returned (.tuple #[.int .u32 (f k), .int .i64 er]) ∧ KeepB V w' ∧ Inv w')
    (h0 : Inv w) :
    Calls Tryz.prog 30 #[.pointer (some ⟨ss, 0, none⟩), .int .i64 pid, .slice (some ⟨b, o, none⟩) n cp] w fun e w' => ∃ v, e = .returned v ∧ w'.ownsRow w.heap.size 25 1 v n (seeV f n) ∧ Inv w' ∧ KeepB w w' := by
  obtain ⟨ii, hi, hi0, hi1, hi2⟩ := info_parts wordInfo
  have HC := Lib.hid hcell
  have HS := Lib.hid hstep
  have HL := Lib.hid hload
  have HO := Lib.hid hown
  have H0 := Lib.hid h0
  clear hcell hstep hload h0 hown
  go_enter Tryz.func30, Tryz.ntmps30
  go_wp2_with fail
  go_loopw [7, 8] (fun l i wr => ∃ k : Nat, i = .int .i64 (k : Int) ∧ k ≤ n ∧ wr.ownsRow w.heap.size 25 1 l k (seeV f k) ∧ Inv wr ∧ KeepB w wr) (fun _ i _ => (n - (intOf i).toNat))
  case atStart => exact ⟨0, rfl, Nat.zero_le _, World.ownsRow_nil _ _ _ _, H0.out, KeepB.refl _⟩
  case round =>
    obtain ⟨k, rfl, hk, ho, hI, hK⟩ := hrel
    have O := Lib.hid ho
    have IV := Lib.hid hI
    have KB := Lib.hid hK
    by_cases hlt : k < n
    · have ck := HC.out wr hI k hlt
      have LD := Lib.hid (HL.out wr k hlt hI)
      have FK := Lib.hid (seeV_snoc f k)
      generalize g k = gk at ck LD
      generalize f k = fk at LD FK
      clear ho hI hK
      go_wp2_with fail
      refine LD.out.mono ?_
      rintro e w2 ⟨er, rfl, hk2, hi2⟩
      have I2 := Lib.hid hi2
      have K2 := Lib.hid (KB.out.trans hk2)
      have O2 := Lib.hid ((hk2.row O.out (by decide)).alloc (.cells #[.int .u32 fk] 25))
      have hbs : w.heap.size ≤ (w2.alloc (.cells #[.int .u32 fk] 25)).heap.size := Nat.le_trans K2.out.only.size (by simp)
      have A2 : Hid (Below w2.heap.size w2 (w2.alloc (.cells #[.int .u32 fk] 25))) := Lib.hid ((Below.refl _ _).alloc (Nat.le_refl _) _)
      clear hk2 hi2
      have I3 := Lib.hid (HS.out _ _ I2.out A2.out)
      have K3 := Lib.hid (K2.out.trans (KeepB.below A2.out))
      go_wp2_with (at_builtin; refine wpList_append_own _ rfl (.tmp 27) (.tmp 29) 63 rfl w.heap.size 25 ii (.int .u32 0) 1 4 Tryz.underlying63 hi hi0 hi1 hi2 rfl (by decide) _ k _ rfl O2.out ⟨w2.heap.size, 0, none⟩ 1 1 [.int .u32 fk] rfl rfl (one_atQ w2 _ _) (by simp [Value.oneCell']) (by unfold maxLen; omega) (by omega) hbs ?_; intro v4 w4 ho hg _)
      have O4 : Hid (w4.ownsRow w.heap.size 25 1 v4 (k + 1) (seeV f (k + 1))) := Lib.hid (by rw [FK.out]; exact ho)
      have IK : Hid (Inv w4 ∧ KeepB w w4) := Lib.hid (by
        have hg' : (w2.alloc (.cells #[.int .u32 fk] 25)).grownBy w4 (u7 : Value).ownBlock := hg
        clear hg
        cases hob : (u7 : Value).ownBlock with
        | none =>
          rw [hob] at hg'
          have hb := below_of_none hg'
          exact ⟨HS.out _ _ I3.out hb, K3.out.trans (KeepB.below hb)⟩
        | some g =>
          rw [hob] at hg'
          obtain ⟨cs, hcs⟩ := own_block O2.out hob
          have hge := (O2.out.lt g hob).1
          exact ⟨HO.out _ _ g cs I3.out hcs hge hg', K3.out.ownNew hge hg'⟩)
      clear ho hg
      go_wp2_with fail
      go_roundw
      case rel => exact ⟨k + 1, by go_num, by omega, O4.out, IK.out.1, IK.out.2⟩
      case measure => simp [intOf]; omega
    · obtain rfl : k = n := by omega
      clear ho hI hK
      go_wp2_with fail
      go_ret
      exact ⟨_, rfl, O.out, IV.out, KB.out⟩
end Go.Proofs.YtfpcoomkbmfchaaGreatDoor

/- Rows of one's own beside spaces: what is written there leaves them. Condition: the listed tables read as laid. -/
namespace Go.Proofs.YtfpcoomkbmfchaaGreatDoor
open Go.RowKit Go.Maps
set_option maxRecDepth 100000

/-- Areas lie below a block. -/
def ArN (G : Int → Option Pc) (N : Nat) : Prop := ∀ i s, G i = some s → s.ar = [] ∨ ∃ b o n c, s.v = .slice (some ⟨b, o, none⟩) n c ∧ b < N
theorem ArN.mono {G : Int → Option Pc} {N M : Nat} (h : ArN G N) (hm : N ≤ M) : ArN G M := fun i s hi => (h i s hi).imp id fun ⟨b, o, n, c, e, hb⟩ => ⟨b, o, n, c, e, Nat.lt_of_lt_of_le hb hm⟩
theorem ArAt.far {w w' : World} {v : Value} {L : List Ar} {g : Nat} (h : ArAt w v L) (ho : Only w w' (fun k => k = g)) (hg : L = [] ∨ ∃ b o n c, v = .slice (some ⟨b, o, none⟩) n c ∧ b < g) : ArAt w' v L := by
  obtain ⟨a, c, rfl, hl, hw, h⟩ := h
  refine ⟨a, c, rfl, hl, hw, ?_⟩
  rcases h with h | ⟨b, o, rfl, hlt, hc⟩
  · exact Or.inl h
  · rcases hg with hg | ⟨b', o', n', c', e, hb⟩
    · exact Or.inl hg
    · injection e with e1
      injection e1 with e1
      injection e1 with e1 e2
      subst e1
      have k : ∀ q, w'.cell? ⟨b, q, none⟩ = w.cell? ⟨b, q, none⟩ := fun q => World.cell?_of_block (w := w) (a := ⟨b, q, none⟩) (ho.block b hlt (by omega))
      exact Or.inr ⟨b, o, rfl, Nat.lt_of_lt_of_le hlt ho.size, fun i hi => by
        obtain ⟨c0, c1, c2⟩ := hc i hi
        exact ⟨(k _).trans c0, (k _).trans c1, (k _).trans c2⟩⟩
section
variable {W0 w : World} {I : SIx} {c : Nat} {Q : Nat → Nat} {V : Nat → Nat → Int} {Lb : List Nd} {G : Int → Option Pc} {D : Int → Option Sp}
theorem BL.arN (h : BL W0 w I c Q V Lb G D) : ArN G w.heap.size := fun i s hi => by
  obtain ⟨⟨a, cp, e, _, _, hc⟩, _⟩ := h.area hi
  rcases hc with hc | ⟨b, o, rfl, hlt, _⟩
  · exact Or.inl hc
  · exact Or.inr ⟨b, o, _, _, e, hlt⟩
theorem BL.foreign (h : BL W0 w I c Q V Lb G D) {w' : World} {g : Nat} {cs : Array Value} (hb : w.heap[g]? = some (.cells cs 25 (0, 0))) (hn : W0.heap.size ≤ g) (hA : ArN G g) (ho : Only w w' (fun k => k = g)) : BL W0 w' I c Q V Lb G D := by
  obtain ⟨W, Pb, h1, h2⟩ := h
  have hnm : ¬ Mov w g := not_mov hb (by decide)
  refine ⟨W, Pb, ⟨h1.sys.kept ho (fun k hk hkb => ?_) (ho.old h1.sys.below h1.sys.below.size (fun k hk => by rw [hk]; exact hn)), h1.bud.kept (ho.block _ (lt_of_block h1.bud.box) fun hk => ?_) (fun k hk => ho.block _ (h1.bud.lt hk) fun hkb => hnm (hkb ▸ (h1.bud.noAr k hk).2)), ho.kept h1.box fun hk => ?_, h1.map.same (ho.block _ h1.map.lt fun hk => ?_), fun i s hi => ?_, h1.nbm, h1.nmm, h1.nod, h1.nsp, h1.ne⟩, h2⟩
  · obtain ⟨_, o, hoo, hx⟩ := h1.sys.kind k hk
    rw [hkb, hb] at hoo
    rw [← Option.some.inj hoo] at hx
    simp only [kindOf, Option.some.injEq, reduceCtorEq, false_and, false_or] at hx
    revert hx; decide
  · have := h1.bud.box
    rw [hk, hb] at this
    simp only [budO, Option.some.injEq, Obj.cells.injEq] at this
    exact absurd this.2.1 (by decide)
  · have := h1.box
    rw [hk, hb] at this
    simp only [ssO, Option.some.injEq, Obj.cells.injEq] at this
    exact absurd this.2.1 (by decide)
  · obtain ⟨es, ck, hm⟩ := h1.map.isMap
    rw [hk, hb] at hm; cases hm
  · obtain ⟨a, bb, d⟩ := h1.sp i s hi
    refine ⟨ho.kept a fun hk => ?_, bb.far ho (hA i s hi), d⟩
    rw [hk, hb] at a
    simp only [spO, Option.some.injEq, Obj.cells.injEq] at a
    exact absurd a.2.1 (by decide)
end
section
variable {W0 w : World} {I : SIx} {q : Nat} {Lb : List Nd} {G : Int → Option Pc} {pr : Int → Nat → Bool} {rd : Int → Nat → Nat → Int}
theorem Hv.arN (h : Hv W0 w I q Lb G pr rd) : ArN G w.heap.size := by
  obtain ⟨c, D, Q, V, h1, _⟩ := h
  exact h1.bl.arN
theorem Hv.own (h : Hv W0 w I q Lb G pr rd) {w' : World} {g : Nat} {cs : Array Value} (hb : w.heap[g]? = some (.cells cs 25 (0, 0))) (hn : W0.heap.size ≤ g) (hA : ArN G g) (hg : w.grownBy w' (some g)) : Hv W0 w' I q Lb G pr rd := by
  obtain ⟨c, D, Q, V, h1, h2⟩ := h
  exact ⟨c, D, Q, V, ⟨h1.bl.foreign hb hn hA (Only.grown hg rfl), h1.j⟩, h2⟩
/-- See, of one address whose page is mapped. -/
theorem Hv.see1 (h : Hv W0 w I q Lb G pr rd) {i : Int} {s : Pc} (hG : G i = some s) {va x : Int} (hva : 0 ≤ va ∧ va < 32768) {d : Bool} (hm : atD s.ar ((va / 32).toNat : Int) = some d) (hp : pr i (va / 32).toNat = true) (hx : rd i (va / 32).toNat (va % 32).toNat = x) {b : Nat} (hb : w.heap[b]? = some (.cells #[.int .u32 va] 25 (0, 0))) (cp : Nat) :
    Calls Tryz.prog 30 #[.pointer (some ⟨I.ss, 0, none⟩), .int .i64 i, .slice (some ⟨b, 0, none⟩) 1 cp] w fun e w' => ∃ g cp', e = .returned (.slice (some ⟨g, 0, none⟩) 1 cp') ∧ (∃ cs, w'.heap[g]? = some (.cells cs 25 (0, 0)) ∧ w'.cell? ⟨g, 0, none⟩ = some (.int .u32 x)) ∧ Hv W0 w' I q Lb G pr rd ∧ KeepB w w' := by
  have hA := h.arN
  refine (see_ok I.ss i b 0 cp 1 (by decide) (fun _ => va) (fun _ => x) (fun V => Hv W0 V I q Lb G pr rd ∧ KeepB w V) w
    (fun V hV k hk => ?_) (fun V V' hV hb => ⟨hV.1.step hb, hV.2.trans (KeepB.below hb)⟩)
    (fun V V' g cs hV hcs hge hg => ⟨hV.1.own hcs (Nat.le_trans h.below.size hge) (hA.mono hge) hg, hV.2.ownNew hge hg⟩)
    (fun V k hk hV => ((hV.1.load0 hG hva hm hp hx).mono fun e w' ⟨he, hk, h'⟩ => ⟨0, he, hk, h', hV.2.trans hk⟩)) ⟨h, KeepB.refl _⟩).mono ?_
  · obtain rfl : k = 0 := by omega
    rw [cell_of_row _ _ _ _ _ _ (hV.2.box hb (by decide))]; rfl
  · rintro e w' ⟨v, rfl, ho, ⟨h', _⟩, hk⟩
    rcases ho.2 with ⟨_, h0⟩ | ⟨g, cap, cur, rfl, _, hgg, _⟩
    · omega
    · refine ⟨g, cap, rfl, ⟨_, hgg, ?_⟩, h', hk⟩
      have := ho.cells (g := g) rfl 0 (.int .u32 x) (seeV_get _ _ 0 (by omega))
      rwa [Addr.add_mid, Nat.zero_add] at this
end
end Go.Proofs.YtfpcoomkbmfchaaGreatDoor

/- Spaces of one container; what is taken away. Condition: the listed tables read as laid. -/
namespace Go.Proofs.YtfpcoomkbmfchaaGreatDoor
open Go.RowKit Go.Maps
set_option maxRecDepth 100000

/-- One container. -/
abbrev oneL (q u : Int) : List Nd := [(1, 0, q, u)]
theorem charge_one (q u k : Int) : ∃ u', chargeL (oneL q u) 1 k = oneL q u' := by
  unfold chargeL
  split
  · exact ⟨u + k, rfl⟩
  · exact ⟨u, rfl⟩
theorem refund_one (q u k : Int) : ∃ u', refundL (oneL q u) 1 k = oneL q u' := by
  unfold refundL
  split
  · exact ⟨u + -k, rfl⟩
  · exact ⟨u, rfl⟩
theorem left_one (q u : Int) : leftL (oneL q u) 1 = q - u := by
  show q - u - (0 + 0) = q - u
  omega
/-- All pages of one area are taken. -/
theorem cutD_all {x y : Int} {d : Bool} {er : Int} {M : List Ar} (hf : FitD x y) (h : CutD [(x, y, d)] x y er M) : er = 0 ∧ M = [] := by
  have hup : UpD [(x, y, d)] := ⟨fun z hz => by rw [List.mem_singleton.1 hz]; exact hf, by simp⟩
  have hok : OkD [(x, y, d)] := ⟨by simp, hup⟩
  have hat : ∀ p, atD [(x, y, d)] p = if x ≤ p ∧ p < x + y then some d else none := fun p => rfl
  rcases h with ⟨hn, _⟩ | ⟨_, ⟨hn, _⟩ | ⟨_, ha⟩⟩
  · exact absurd ⟨hok, hf⟩ hn
  · refine absurd (fun p h1 h2 => ?_) hn
    rw [hat, if_pos ⟨h1, h2⟩]; simp
  · refine ha.uniq (AnsD.few (f := lessD x y (atD [(x, y, d)])) (R := []) ⟨fun z hz => (by cases hz), List.Pairwise.nil⟩ (fun p => ?_) (by simp)) fun _ => rfl
    unfold lessD
    show none = _
    split
    · rfl
    · rename_i h
      rw [hat, if_neg h]
section
variable {W0 w : World} {I : SIx} {q : Nat} {Lb : List Nd} {G : Int → Option Pc} {pr : Int → Nat → Bool} {rd : Int → Nat → Nat → Int}
theorem Hv.mapd (h : Hv W0 w I q Lb G pr rd) {i : Int} {r : Nat} (hr : r < 1024) (hp : pr i r = true) : ∃ s x, G i = some s ∧ atD s.ar (r : Int) = some x := by
  obtain ⟨c, D, Q, V, h1, h2, _⟩ := h
  rw [← h2 i r hr] at hp
  cases hD : D i with
  | none => rw [prD_none hD] at hp; cases hp
  | some F =>
    obtain ⟨s, hG⟩ := h1.bl.has hD
    rw [prD_some hD] at hp
    have := h1.j.perm i F r hD hr hp
    rw [PG_some hG] at this
    exact ⟨s, _, hG, this⟩
theorem Hv.rdOff (h : Hv W0 w I q Lb G pr rd) {i : Int} {r y : Nat} (hr : r < 1024) (hy : y < 32) (hp : pr i r = false) : rd i r y = 0 := by
  obtain ⟨c, D, Q, V, h1, h2, h3⟩ := h
  rw [← h3 i r y hr hy]
  exact rdD_off (by rw [h2 i r hr]; exact hp) V y
theorem Hv.used (h : Hv W0 w I q Lb G pr rd) {i : Int} {s : Pc} (hG : G i = some s) : usedN Lb i = costP (pr i) := by
  obtain ⟨c, D, Q, V, h1, h2, _⟩ := h
  obtain ⟨F, hD⟩ := h1.bl.hasD hG
  have := h1.j.bud i
  rw [hD] at this
  rw [this, show costD (some F) = costF F from rfl, costF_eq, costP_congr fun p hp => show onF F p = pr i p by rw [← h2 i p hp, prD_some hD]]
  rfl
theorem Hv.congr {pr' : Int → Nat → Bool} {rd' : Int → Nat → Nat → Int} (h : Hv W0 w I q Lb G pr rd) (hp : ∀ j r, r < 1024 → pr' j r = pr j r) (hr : ∀ j r y, r < 1024 → y < 32 → rd' j r y = rd j r y) : Hv W0 w I q Lb G pr' rd' := by
  obtain ⟨c, D, Q, V, h1, h2, h3⟩ := h
  exact ⟨c, D, Q, V, h1, fun j r hj => (h2 j r hj).trans (hp j r hj).symm, fun j r y hj hy => (h3 j r y hj hy).trans (hr j r y hj hy).symm⟩
theorem Hv.shrink (h : Hv W0 w I q Lb G pr rd) {i : Int} {s : Pc} (hG : G i = some s) (x y : Int) (hx : I64 x) (hy : I64 y) :
    Calls Tryz.prog 17 #[.pointer (some ⟨I.ss, 0, none⟩), .int .i64 i, .int .i64 x, .int .i64 y] w fun e w' => ∃ er M, CutD s.ar x y er M ∧ e = .returned (.int .i64 er) ∧ KeepB w w' ∧ (er ≠ 0 ∧ Hv W0 w' I q Lb G pr rd ∨ er = 0 ∧ ∃ s' k pr' rd', s'.ar = M ∧ Hv W0 w' I q (refundL Lb i k) (putG G i s') pr' rd') := by
  obtain ⟨c, D, Q, V, h1, h2, h3⟩ := h
  obtain ⟨F, hD⟩ := h1.bl.hasD hG
  refine (h1.shrink hG hD x y hx hy).mono ?_
  rintro e w' ⟨er, M, ha, rfl, hk, ⟨hne, hst⟩ | ⟨rfl, v, c', D', Q', Lb', hst, hs, k, rfl⟩⟩
  · exact ⟨er, M, ha, rfl, hk, Or.inl ⟨hne, c, D, Q, V, hst, h2, h3⟩⟩
  · exact ⟨0, M, ha, rfl, hk, Or.inr ⟨rfl, arS s v M, k, prD D', rdD D' V, rfl, c', D', Q', V, hst, fun _ _ _ => rfl, fun _ _ _ _ _ => rfl⟩⟩
end
end Go.Proofs.YtfpcoomkbmfchaaGreatDoor
