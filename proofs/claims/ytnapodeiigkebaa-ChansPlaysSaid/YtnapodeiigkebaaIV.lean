/- Texts of mine, joined: H6 H7 H8 H9. What each says and under which conditions stands at its head, below. -/
import Derived.Test.YtnapodeiigkebaaIU
import Derived.Deep.RegionHeld3
import Derived.Deep.AppendLies
import Derived.Deep.RegionLaw
import Derived.Great.BuildSlice
/- Where channels' frames lie; one more channel. In lists, and what memory says of it. Conditions: named in the theorems. -/
namespace Go.Proofs.Ytnapodeiigkebaa
open Go.RowKit
set_option maxRecDepth 100000

/-- A channel's first frame. -/
def frC (C : Cf) (i : Nat) : Nat := (partS C.1 C.1.length + chanS C.2.2 i).toNat
def wdsR (T : Row) : Nat := wdsG (T.getD 2 0).toNat (T.getD 3 0).toNat
theorem chanB_nat {n : Nat} {T : Row} (h : chanB n T = true) (hl : T.length = 4) : ∃ (a b : Int) (c d : Nat), T = [a, b, (c : Int), (d : Int)] ∧ (1 ≤ c ∧ c ≤ 8) ∧ (1 ≤ d ∧ d ≤ 8) := by
  obtain ⟨⟨h1, h2⟩, ⟨h3, h4⟩, -⟩ := chanF_le n T h
  obtain ⟨a, b, c, d, rfl⟩ := four_row hl
  simp only [List.getD_cons_succ, List.getD_cons_zero] at h1 h2 h3 h4
  obtain ⟨c', rfl⟩ := Int.eq_ofNat_of_zero_le (show 0 ≤ c by omega)
  obtain ⟨d', rfl⟩ := Int.eq_ofNat_of_zero_le (show 0 ≤ d by omega)
  exact ⟨a, b, c', d', rfl, by omega, by omega⟩
theorem wds_chanF {n : Nat} {T : Row} (h : chanB n T = true) : (wdsR T : Int) ≤ 32 * chanF T ∧ 0 ≤ chanF T := by
  obtain ⟨⟨h1, h2⟩, ⟨h3, h4⟩, ⟨h5, h6⟩, h7, -⟩ := chanF_le n T h
  refine ⟨?_, h7⟩
  unfold wdsR wdsG chanF at *
  generalize T.getD 2 0 = c at *
  generalize T.getD 3 0 = d at *
  obtain ⟨c', rfl⟩ := Int.eq_ofNat_of_zero_le (show 0 ≤ c by omega)
  obtain ⟨d', rfl⟩ := Int.eq_ofNat_of_zero_le (show 0 ≤ d by omega)
  push_cast
  simp only [Int.toNat_natCast]
  generalize (c' : Int) * ((d' : Int) + 1) = z at *
  omega
section
variable {C : Cf} (hm : mayB C = true)
include hm
theorem chan_row (i : Nat) (h : i < C.2.2.length) : chanB C.1.length (C.2.2.getD i []) = true := (mayB_parts hm).2.2 _ (getD_mem h)
theorem frC_cast (i : Nat) : (frC C i : Int) = partS C.1 C.1.length + chanS C.2.2 i := by
  have h1 := partS_le hm C.1.length
  have h2 := chanS_le hm i
  unfold frC
  omega
theorem frC_step (i : Nat) (h : i < C.2.2.length) : frC C i * 32 + wdsR (C.2.2.getD i []) ≤ frC C (i + 1) * 32 := by
  have h1 := frC_cast hm i
  have h2 := frC_cast hm (i + 1)
  rw [chanS_succ _ _ h] at h2
  have h3 := wds_chanF (chan_row hm i h)
  omega
theorem frC_mono (i m : Nat) (h : i + m ≤ C.2.2.length) : frC C i ≤ frC C (i + m) := by
  induction m with
  | zero => exact Nat.le_refl _
  | succ m ih =>
    have := ih (by omega)
    have h1 := frC_cast hm (i + m)
    have h2 := frC_cast hm (i + m + 1)
    rw [chanS_succ _ _ (by omega)] at h2
    have h3 := (wds_chanF (chan_row hm (i + m) (by omega))).2
    rw [show i + (m + 1) = i + m + 1 from rfl]
    omega
theorem frC_apart (i j : Nat) (h : i < j) (hj : j ≤ C.2.2.length) : frC C i * 32 + wdsR (C.2.2.getD i []) ≤ frC C j * 32 := by
  have h1 := frC_step hm i (by omega)
  have h2 := frC_mono hm (i + 1) (j - (i + 1)) (by omega)
  rw [show i + 1 + (j - (i + 1)) = j by omega] at h2
  omega
theorem frC_all : (frC C C.2.2.length : Int) = framesC C := by rw [frC_cast hm, framesC_sums]
theorem frC_room (i : Nat) (h : i < C.2.2.length) {n : Nat} (hn : framesC C ≤ (n : Int)) : frC C i * 32 + wdsR (C.2.2.getD i []) ≤ n * 32 := by
  have h1 := frC_apart hm i C.2.2.length h (Nat.le_refl _)
  have h2 := frC_all hm
  omega
end
/-- Channels with one more. -/
def ChX.more (X : ChX) (v : Value) (r : Nat) (T : Row) : ChX := { X with v := v, H := X.H ++ [T], rb := updH X.rb X.H.length r }
section
variable {X : ChX} {v : Value} {r : Nat} {T : Row}
theorem ChX.more_len : (X.more v r T).H.length = X.H.length + 1 := by simp [ChX.more]
theorem ChX.more_at {i : Nat} (h : i < X.H.length) (j : Nat) : (X.more v r T).at_ i j = X.at_ i j := by
  unfold ChX.at_ ChX.more
  simp only [List.getD_eq_getElem?_getD, List.getElem?_append_left h]
theorem ChX.more_new (j : Nat) : (X.more v r T).at_ X.H.length j = T.getD j 0 := by
  unfold ChX.at_ ChX.more
  simp [List.getD_eq_getElem?_getD]
theorem ChX.more_ch {i : Nat} (h : i < X.H.length) : (X.more v r T).ch i = X.ch i := by
  unfold ChX.ch
  rw [more_at h, more_at h, more_at h, more_at h]
  simp only [ChX.more, updH_far _ _ (Nat.ne_of_lt h)]
theorem ChX.more_cells : ∀ (k : Nat), k ≤ X.H.length → (X.more v r T).cells k = X.cells k
  | 0, _ => rfl
  | k + 1, h => by rw [cells_succ, cells_succ, more_ch (by omega), more_cells k (by omega)]
end
theorem ChAt.more {w w1 w2 : World} {X : ChX} {L : List Int} (A : ChAt w X (fun _ => 0) L (fun _ => [])) (hb : Below w.heap.size w w1) {r c d : Nat} {a b : Int} {v : Value} (R : RngAt w1 r c d 0 0) (hr : w.heap.size ≤ r)
    (hg : w1.grownBy w2 X.v.ownBlock) (ho : w2.ownsRow X.base 93 7 v (X.H.length + 1) (X.cells X.H.length ++ (chA r a b c d X.mp (X.fr X.H.length)).toList)) (few : X.H.length + 1 ≤ 16)
    (room : X.fr X.H.length * 32 + wdsG c d ≤ X.n * 32) (apart : ∀ i, i < X.H.length → X.fr i * 32 + X.wds i ≤ X.fr X.H.length * 32) :
    ChAt (w2.setCell ⟨X.xb, 1, none⟩ v) (X.more v r [a, b, (c : Int), (d : Int)]) (fun _ => 0) L (fun _ => []) := by
  have A1 := A.below hb
  have keep : ∀ (k : Nat) (o : Obj), w1.heap[k]? = some o → kindOf o ≠ some 93 → w2.heap[k]? = some o := fun k o hk hne =>
    (hg.block k (lt_of_block hk) (fun e => by
      obtain ⟨cs, hcs⟩ := own_block A1.parts e.symm
      rw [hcs] at hk
      exact hne (by rw [← Option.some.inj hk]; rfl))).trans hk
  have hx := keep _ _ A1.box (by simp [kindOf])
  have hg2 := grownBy_setCell w2 X.xb 1 v
  have keep2 : ∀ (k : Nat) (o : Obj), w1.heap[k]? = some o → kindOf o ≠ some 93 → kindOf o ≠ some 70 → (w2.setCell ⟨X.xb, 1, none⟩ v).heap[k]? = some o := fun k o hk hne hne2 =>
    box_grown (keep k o hk hne) hg2 hx (by simpa [kindOf] using hne2)
  have new : ∀ j, (X.more v r [a, b, (c : Int), (d : Int)]).at_ X.H.length j = [a, b, (c : Int), (d : Int)].getD j 0 := fun j => X.more_new j
  have ncp : (X.more v r [a, b, (c : Int), (d : Int)]).cp X.H.length = c := by unfold ChX.cp; rw [new 2]; simp
  have nwi : (X.more v r [a, b, (c : Int), (d : Int)]).wi X.H.length = d := by unfold ChX.wi; rw [new 3]; simp
  have ocp : ∀ i, i < X.H.length → (X.more v r [a, b, (c : Int), (d : Int)]).cp i = X.cp i := fun i hi => by unfold ChX.cp; rw [X.more_at hi]
  have owi : ∀ i, i < X.H.length → (X.more v r [a, b, (c : Int), (d : Int)]).wi i = X.wi i := fun i hi => by unfold ChX.wi; rw [X.more_at hi]
  have nrb : (X.more v r [a, b, (c : Int), (d : Int)]).rb X.H.length = r := updH_same _ _ _
  have orb : ∀ i, i < X.H.length → (X.more v r [a, b, (c : Int), (d : Int)]).rb i = X.rb i := fun i hi => updH_far _ _ (Nat.ne_of_lt hi)
  have split : ∀ i, i < (X.more v r [a, b, (c : Int), (d : Int)]).H.length → i < X.H.length ∨ i = X.H.length := fun i hi => by rw [X.more_len] at hi; omega
  have lts : ∀ i, i < X.H.length → X.rb i < r := fun i hi => Nat.lt_of_lt_of_le (A.ring i hi).lt hr
  refine ⟨heap_setCell_same w2 X.xb 1 _ _ v hx, ?_, by rw [X.more_len]; exact few, ⟨keep2 _ _ A1.mem.box (by simp [kindOf]) (by simp [kindOf]), keep2 _ _ A1.mem.row (by simp [kindOf]) (by simp [kindOf]), A1.mem.len, A1.mem.ne, A1.mem.pos, A1.mem.top⟩,
    A.wd, fun i hi => ?_, fun i hi j hj => by simp at hj, fun i hi => ?_, fun i hi => ?_, fun i j hij hj => ?_, fun i j hi hj e => ?_⟩
  · have h1 := ownsRow_grown ho hg2 hx (by simp [kindOf])
    have e : (X.more v r [a, b, (c : Int), (d : Int)]).cells (X.H.length + 1) = X.cells X.H.length ++ (chA r a b c d X.mp (X.fr X.H.length)).toList := by
      rw [ChX.cells_succ, X.more_cells _ (Nat.le_refl _)]
      unfold ChX.ch
      rw [new 0, new 1, new 2, new 3, nrb]
      rfl
    rw [X.more_len, e]
    exact h1
  · rcases split i hi with h | rfl
    · rw [ocp i h, owi i h, orb i h]
      have := A1.ring i h
      exact this.kept ((keep2 _ _ this.box (by simp [kindOf]) (by simp [kindOf])).trans this.box.symm)
    · rw [ncp, nwi, nrb]
      exact R.kept ((keep2 _ _ R.box (by simp [kindOf]) (by simp [kindOf])).trans R.box.symm)
  · rcases split i hi with h | rfl
    · rw [ocp i h, owi i h, X.more_at h, X.more_at h]; exact A.rows i h
    · rw [ncp, nwi, new 2, new 3]; exact ⟨rfl, rfl⟩
  · rcases split i hi with h | rfl
    · unfold ChX.wds; rw [ocp i h, owi i h]; exact A.room i h
    · unfold ChX.wds; rw [ncp, nwi]; exact room
  · rcases split j hj with h | rfl
    · unfold ChX.wds; rw [ocp i (by omega), owi i (by omega)]; exact A.apart i j hij h
    · unfold ChX.wds; rw [ocp i (by omega), owi i (by omega)]; exact apart i hij
  · rcases split i hi with h | rfl <;> rcases split j hj with h' | rfl
    · rw [orb i h, orb j h'] at e; exact A.nodup i j h h' e
    · rw [orb i h, nrb] at e; have := lts i h; omega
    · rw [orb j h', nrb] at e; have := lts j h'; omega
    · rfl
end Go.Proofs.Ytnapodeiigkebaa

/- The contract of package chans' add. Condition: the channels lie as New lays them, so far without messages; the configuration may be; the memory has its frames. -/
namespace Go.Proofs.Ytnapodeiigkebaa
open Go.RowKit
set_option maxRecDepth 100000

theorem Only.grownR {w w' : World} {B : Nat → Prop} {r : Option Nat} (h : w.grownBy w' r) (hr : ∀ k, r = some k → B k) : Only w w' B :=
  ⟨h.os, h.tape, h.output, h.size, fun k hk hB => h.block k hk (fun e => hB (hr k e.symm))⟩
theorem new_chan (w : World) (r : Nat) (a b c d : Int) (mp f : Nat) : ∀ (j : Nat) (u : Value), (chA r a b c d mp f).toList[j]? = some u → (w.alloc (.cells (chA r a b c d mp f) 93)).cell? ((⟨w.heap.size, 0, none⟩ : Addr).add j) = some u := fun j u hu => by
  rw [Addr.add_mid, cell_of_row _ _ _ _ _ _ (heap_alloc_new w _)]
  rw [show 0 + j = j by omega, ← hu]; simp
theorem ChAt.boxTo {w w' : World} {X : ChX} {ff : Nat → Nat} {L : List Int} {Q : Nat → List (List Int)} (A : ChAt w X ff L Q) (hg : w.grownBy w' X.v.ownBlock) : w'.heap[X.xb]? = some (.cells #[.pointer (some ⟨X.mp, 0, none⟩), X.v] 70 (0, 0)) :=
  (hg.block _ (lt_of_block A.box) (fun e => by
    obtain ⟨cs, hcs⟩ := own_block A.parts e.symm
    have := A.box
    rw [hcs] at this
    exact absurd (congrArg kindOf (Option.some.inj this)) (by simp [kindOf]))).trans A.box
/-- What add leaves. -/
def AddH (X : ChX) (L : List Int) (T : Row) (w w' : World) : Prop := ∃ v r, ChAt w' (X.more v r T) (fun _ => 0) L (fun _ => []) ∧ w.heap.size ≤ r ∧ (∀ g, v.ownBlock = some g → X.v.ownBlock = some g ∨ w.heap.size ≤ g) ∧ Only w w' (fun j => j = X.xb ∨ X.v.ownBlock = some j)
set_option maxHeartbeats 4000000 in
theorem add_okH {w : World} {X : ChX} {L : List Int} {C : Cf} {v1 v2 v3 : Value} (A : ChAt w X (fun _ => 0) L (fun _ => [])) (hk : chk C = 0) (CF : CfAt w v1 v2 v3 C) (k : Nat) (hkl : k < C.2.2.length) (hH : X.H = C.2.2.take k) (hF : X.fr = frC C) (hn : framesC C ≤ (X.n : Int)) (hbase : X.base ≤ w.heap.size) :
    Calls Try.prog 31 #[.pointer (some ⟨X.xb, 0, none⟩), .agg #[v1, v2, v3], .int .i64 (k : Int)] w fun e w' => e = .returned (.int .i64 0) ∧ AddH X L (C.2.2.getD k []) w w' := by
  have hm := (chk_zero hk).1
  have hlen : X.H.length = k := by rw [hH, List.length_take]; omega
  have few : k + 1 ≤ 16 := by have := (mayB_parts hm).2.1; omega
  have B1 := Lib.hid (below_step1 w (.cells #[v1, v2, v3] 26))
  have CH := chan_ok v1 v2 v3 C (k : Int) _ (CF.below B1.out)
  rw [findA_chan hk k hkl, ← frC_cast hm] at CH
  have CH := Lib.hid CH
  obtain ⟨aa, cc, rfl, hl3, h4, hcells⟩ := CF.hs
  obtain ⟨cb, co, rfl, hlt, hcell⟩ := hcells.resolve_left (by intro e; rw [e] at hkl; simp at hkl)
  obtain ⟨a, b, c, d, hT, hc, hd⟩ := chanB_nat (chan_row hm k hkl) (h4 _ (getD_mem hkl))
  have room := frC_room hm k hkl hn
  have aprt : ∀ i, i < X.H.length → X.fr i * 32 + X.wds i ≤ X.fr X.H.length * 32 := fun i hi => by
    have h := frC_apart hm i k (by omega) (by omega)
    have e : X.wds i = wdsR (C.2.2.getD i []) := by
      unfold ChX.wds wdsR ChX.cp ChX.wi ChX.at_
      rw [hH]
      simp only [List.getD_eq_getElem?_getD, List.getElem?_take, if_pos (show i < k by omega)]
    rw [hF, hlen, e]; exact h
  rw [hT] at room
  have room : X.fr X.H.length * 32 + wdsG c d ≤ X.n * 32 := by
    rw [hF, hlen]
    simpa [wdsR] using room
  have RC : Hid (∀ V, Below w.heap.size w V → V.cell? ⟨cb, co + k * 4, none⟩ = some (.int .i64 a) ∧ V.cell? ⟨cb, co + k * 4 + 1, none⟩ = some (.int .i64 b) ∧ V.cell? ⟨cb, co + k * 4 + 2, none⟩ = some (.int .i64 (c : Int)) ∧ V.cell? ⟨cb, co + k * 4 + 3, none⟩ = some (.int .i64 (d : Int))) := Lib.hid fun V hV => by
    have h := fun j hj => (hV.cell (p := ⟨cb, co + k * 4 + j, none⟩) hlt).trans (hcell k hkl j hj)
    rw [hT] at h
    exact ⟨h 0 (by decide), h 1 (by decide), h 2 (by decide), h 3 (by decide)⟩
  have NR := Lib.hid fun V => new_okG c d hc hd V
  have X1 := Lib.hid (heap_alloc_new w (.cells #[v1, v2, .slice (some ⟨cb, co, none⟩) C.2.2.length cc] 26))
  have FK : Hid (X.fr X.H.length = frC C k) := Lib.hid (by rw [hF, hlen])
  have AA := Lib.hid A
  have RM := Lib.hid room
  have AP := Lib.hid aprt
  have HL := Lib.hid hlen
  have FW := Lib.hid few
  have BS := Lib.hid hbase
  have fr32 : frC C k ≤ 1024 := by have := A.mem.top; have := FK.out; omega
  obtain ⟨n, hn'⟩ : ∃ n, n = C.2.2.length := ⟨_, rfl⟩
  rw [← hn'] at hkl B1 CH X1 hl3 ⊢
  rw [hT]
  obtain ⟨f, hf⟩ : ∃ f, f = frC C k := ⟨_, rfl⟩
  rw [← hf] at CH FK fr32
  have kn : decide (n ≤ k) = false := decide_eq_false (by omega)
  generalize chanF (C.2.2.getD k []) = cf at CH
  clear hcells hcell h4 hT hm hk CF A hH hF hn room aprt hbase few hlen hf hlt hn'
  go_enter Try.func31, Try.ntmps31
  go_wp2_with fail
  refine CH.out.mono ?_
  rintro e w2 ⟨rfl, hb⟩
  have x2 : w2.cell? ⟨w.heap.size, 2, none⟩ = some (.slice (some ⟨cb, co, none⟩) n cc) := by rw [cell_of_row _ _ _ _ _ _ (below_block hb X1.out)]; rfl
  have B2 := Lib.hid (B1.out.trans (hb.mono B1.out.size))
  obtain ⟨y0, y1, y2, y3⟩ := RC.out w2 B2.out
  have S2 := Lib.hid (show w.heap.size < w2.heap.size from lt_of_block (below_block hb X1.out))
  clear hb
  unfold ans3
  have ZN := Lib.hid (heap_alloc_new w2 (.cells #[.int .i64 a, .int .i64 b, .int .i64 (c : Int), .int .i64 (d : Int)] 47))
  have ZB := Lib.hid (below_step1 w2 (.cells #[.int .i64 a, .int .i64 b, .int .i64 (c : Int), .int .i64 (d : Int)] 47))
  go_wp2_with fail
  refine (NR.out _).mono ?_
  rintro e w3 ⟨r, rfl, hr, hrl, hb⟩
  obtain ⟨z0, z1, z2, z3, -⟩ := box4 (below_block hb ZN.out)
  have B3' := Lib.hid ((B2.out.trans (ZB.out.mono B2.out.size)).trans (hb.mono (Nat.le_trans B2.out.size ZB.out.size)))
  have R3 := Lib.hid hr
  have RL : Hid (w.heap.size ≤ r) := Lib.hid (Nat.le_trans (Nat.le_trans B2.out.size ZB.out.size) hrl)
  have A3 := Lib.hid (AA.out.below B3'.out)
  clear hr hb hrl y0 y1 y2 y3 x2
  go_wp2_with fail
  have q0 : w3.cell? ⟨X.xb, 0, none⟩ = some (.pointer (some ⟨X.mp, 0, none⟩)) := A3.out.c0
  have q1 : w3.cell? ⟨X.xb, 1, none⟩ = some X.v := A3.out.c1
  have A4 := Lib.hid (A3.out.below (Below.refl _ _).drew)
  have hxb : X.xb < w3.heap.size := lt_of_block A3.out.box
  obtain ⟨ie, hi, hbi⟩ := Option.map_eq_some_iff.1 chInfo
  simp only [Prod.mk.injEq] at hbi
  obtain ⟨hi0, hi1, hi2⟩ := hbi
  have B5 := Lib.hid (below_step1 w3.drew (.cells (chA r a b c d X.mp f) 93))
  have A5 := Lib.hid (A4.out.below B5.out)
  have ZA : Hid (X.base ≤ (w3.drew.alloc (.cells (chA r a b c d X.mp f) 93)).heap.size) := Lib.hid (by have := BS.out; have := B3'.out.size; have h : w3.drew.heap.size = w3.heap.size := rfl; have := B5.out.size; omega)
  have NEWS := Lib.hid (new_chan w3.drew r a b c d X.mp f)
  have T16 : X.H.length + 1 ≤ 16 := by have := HL.out; have := FW.out; omega
  have CO := Lib.hid (chOne r a b c d X.mp f)
  unfold chA at A5 ZA NEWS B5
  go_region_law (first
    | (refine step_append_lies _ (by rfl) _ _ _ (by rfl) X.base 93 ie (.agg chZ) 7 56 Try.underlying68 hi hi0 hi1 hi2 rfl (by omega) X.v X.H.length (X.cells X.H.length) (by rfl) A5.out.parts ⟨w3.drew.heap.size, 0, none⟩ 1 1 (chA r a b c d X.mp f).toList (by rfl) (by rfl) NEWS.out (by simp [chA, Value.oneCell']) (by omega) (by unfold maxLen; omega) (by omega) ZA.out (w3.drew.heap.size + 1) (by simp) ?_
       intro gg cap w4 ho hg hat hlt4
       have OO := Lib.hid ho
       have GG := Lib.hid hg
       have HAT := Lib.hid hat
       have hbx := A5.out.boxTo hg
       have y1 : w4.cell? ⟨X.xb, 1, none⟩ = some X.v := by rw [cell_of_row _ _ _ _ _ _ hbx]; rfl
       have f1 : w4.frozen? ⟨X.xb, 1, none⟩ = false := frozen_of_row w4 _ 1 _ _ hbx
       clear ho hg hat hbx))
  all_goals
    go_wp2
    go_ret
    have B35 := (B3'.out.trans ((Below.refl w3.heap.size w3).drew.mono B3'.out.size)).trans (B5.out.mono (Nat.le_trans B3'.out.size (Nat.le_refl _)))
    refine ⟨rfl, _, r, AA.out.more B35 ((R3.out.below (Below.refl _ _).drew).below B5.out) RL.out GG.out (by rw [FK.out]; exact OO.out) (by have := HL.out; have := FW.out; omega) RM.out AP.out, RL.out, fun g hg => ?_, ?_⟩
    · have : g = gg := by simpa [Value.ownBlock] using hg.symm
      subst this
      rcases HAT.out with e | e
      · exact Or.inl e
      · right; have := B3'.out.size; have h : w3.drew.heap.size = w3.heap.size := rfl; omega
    · exact ((Only.below B35).trans (Only.grownR GG.out (fun k hk => Or.inr hk))).trans (Only.grown (grownBy_setCell _ _ _ _) (Or.inl rfl))
end Go.Proofs.Ytnapodeiigkebaa

/- The contract of package chans' New. Conditions: named in the theorems. -/
namespace Go.Proofs.Ytnapodeiigkebaa
open Go.RowKit
set_option maxRecDepth 100000

theorem framesNo (p : Option Addr) (w : World) (h : NoMem w p) : Calls Try.prog 30 #[.pointer p] w fun e w' => e = .returned (.int .i64 0) ∧ w = w' := by
  rcases h with rfl | ⟨mp, rfl, h⟩
  · exact frames_nil w
  · exact frames_some mp none 0 0 w h
theorem newH_no (p : Option Addr) (v1 v2 v3 : Value) (w : World) (h : ∀ V, Below w.heap.size w V → NoMem V p) : Calls Try.prog 11 #[.pointer p, .agg #[v1, v2, v3]] w fun e w' => e = .returned (.tuple #[.pointer none, .int .i64 1]) ∧ Below w.heap.size w w' := by
  have B1 := Lib.hid (below_step1 w (.cells #[v1, v2, v3] 26))
  have F := Lib.hid (framesNo p _ (h _ B1.out))
  clear h
  go_enter Try.func11, Try.ntmps11
  go_wp2_with fail
  refine F.out.mono ?_
  rintro e w' ⟨rfl, rfl⟩
  go_wp2
  go_ret2
  exact ⟨rfl, B1.out⟩
section
variable {w : World} {mp fb n : Nat} {L : List Int} {v1 v2 v3 : Value} {C : Cf}
theorem newH_bad (hm : MemSt w mp fb n L) (CF : CfAt w v1 v2 v3 C) (hk : chk C ≠ 0) : Calls Try.prog 11 #[.pointer (some ⟨mp, 0, none⟩), .agg #[v1, v2, v3]] w fun e w' => e = .returned (.tuple #[.pointer none, .int .i64 (chk C)]) ∧ Below w.heap.size w w' := by
  have B1 := Lib.hid (below_step1 w (.cells #[v1, v2, v3] 26))
  have F := Lib.hid (frames_some mp _ n n _ (hm.below B1.out).cellM)
  have K := Lib.hid (check_ok v1 v2 v3 C _ (CF.below B1.out))
  have g0 : (chk C == 0) = false := by simpa using hk
  have n0 : ((n : Int) == 0) = false := by have := hm.pos; simp; omega
  generalize chk C = k at K g0 ⊢
  clear hm CF hk
  go_enter Try.func11, Try.ntmps11
  go_wp2_with fail
  refine F.out.mono ?_
  rintro e w' ⟨rfl, rfl⟩
  go_wp2_with fail
  refine K.out.mono ?_
  rintro e w2 ⟨rfl, hb⟩
  have B2 := Lib.hid (B1.out.trans (hb.mono B1.out.size))
  clear hb
  go_wp2
  go_ret2
  exact ⟨rfl, B2.out⟩
/-- The configuration's box, behind what leaves it. -/
structure BoxN (w : World) (v1 v2 v3 : Value) (V : World) : Prop where
  box : CBox V w.heap.size v1 v2 v3
  below : Below w.heap.size w V
theorem BoxN.start : BoxN w v1 v2 v3 (w.alloc (.cells #[v1, v2, v3] 26)) := ⟨CBox.new w _ _ _, below_step1 _ _⟩
theorem BoxN.step {V V' : World} (h : BoxN w v1 v2 v3 V) (hb : Below V.heap.size V V') : BoxN w v1 v2 v3 V' := ⟨h.box.below hb, h.below.trans (hb.mono h.below.size)⟩
theorem newH_few (hm : MemSt w mp fb n L) (CF : CfAt w v1 v2 v3 C) (hk : chk C = 0) (hn : (n : Int) < framesC C) : Calls Try.prog 11 #[.pointer (some ⟨mp, 0, none⟩), .agg #[v1, v2, v3]] w fun e w' => e = .returned (.tuple #[.pointer none, .int .i64 2]) ∧ Below w.heap.size w w' := by
  have B1 := Lib.hid (BoxN.start (w := w) (v1 := v1) (v2 := v2) (v3 := v3))
  have F := Lib.hid fun V (hV : Below w.heap.size w V) => frames_some mp _ n n V (hm.below hV).cellM
  have K := Lib.hid fun V (hV : Below w.heap.size w V) => check_ok v1 v2 v3 C V (CF.below hV)
  have FR := Lib.hid fun V (hV : Below w.heap.size w V) => framesOf_ok v1 v2 v3 C V (CF.below hV)
  rw [hk] at K
  have fa : framesA C = framesC C := by unfold framesA; rw [if_pos (chk_zero hk).1]
  rw [fa] at FR
  have n0 : ((n : Int) == 0) = false := by have := hm.pos; simp; omega
  have d0 : decide ((n : Int) < framesC C) = true := decide_eq_true hn
  generalize framesC C = k at FR d0
  clear hm CF hk fa hn
  go_enter Try.func11, Try.ntmps11
  go_wp2_with fail
  refine (F.out _ B1.out.below).mono ?_
  rintro e w' ⟨rfl, rfl⟩
  go_wp2_with fail
  refine (K.out _ B1.out.below).mono ?_
  rintro e w2 ⟨rfl, hb⟩
  have B2 := Lib.hid (B1.out.step hb)
  have x0 := B2.out.box.c0
  have x1 := B2.out.box.c1
  have x2 := B2.out.box.c2
  clear hb
  go_wp2_with fail
  have B3 := Lib.hid (B2.out.step (Below.refl _ _).drew)
  go_region_held3 (fun V => V.cell? ⟨w.heap.size, 0, none⟩ = some v1 ∧ V.cell? ⟨w.heap.size, 1, none⟩ = some v2 ∧ V.cell? ⟨w.heap.size, 2, none⟩ = some v3) (first | exact ⟨x0, x1, x2⟩ | exact ⟨B4.out.box.c0, B4.out.box.c1, B4.out.box.c2⟩ | exact ⟨B3.out.box.c0, B3.out.box.c1, B3.out.box.c2⟩)
    (first
      | (go_at_call 30; first | (have h := B4.out; clear h; refine (F.out _ B4.out.below).mono ?_) | (refine (F.out _ B3.out.below).mono ?_); rintro e w' ⟨rfl, rfl⟩)
      | (go_at_call 27; refine (FR.out _ B3.out.below).mono ?_; rintro e w4 ⟨rfl, hb⟩; have B4 := Lib.hid (B3.out.step hb); clear hb))
  go_wp2
  go_ret2
  exact ⟨rfl, B4.out.below⟩
end
end Go.Proofs.Ytnapodeiigkebaa

/- The contract of package chans' New where all is well. Conditions: the memory lies as New of layer 2 laid it, its words are words, it has the configuration's frames; the configuration may be. -/
namespace Go.Proofs.Ytnapodeiigkebaa
open Go.RowKit
set_option maxRecDepth 100000

/-- Channels that New is at, so many made. -/
structure NewAt (w : World) (xb mp fb n : Nat) (L : List Int) (C : Cf) (v1 v2 v3 : Value) (k : Nat) (X : ChX) (V : World) : Prop where
  at_ : ChAt V X (fun _ => 0) L (fun _ => [])
  hH : X.H = C.2.2.take k
  hF : X.fr = frC C
  hx : X.xb = xb ∧ X.mp = mp ∧ X.fb = fb ∧ X.n = n ∧ X.base = w.heap.size
  box : CBox V w.heap.size v1 v2 v3
  below : Below w.heap.size w V
  own : ∀ g, X.v.ownBlock = some g → w.heap.size ≤ g
  rb : ∀ i, i < X.H.length → w.heap.size ≤ X.rb i
theorem take_snocH {C : Cf} {k : Nat} (h : k < C.2.2.length) : C.2.2.take k ++ [C.2.2.getD k []] = C.2.2.take (k + 1) := by
  rw [List.take_add_one, List.getElem?_eq_getElem h, List.getD_eq_getElem?_getD, List.getElem?_eq_getElem h]; rfl
theorem NewAt.more {w V V' : World} {xb mp fb n k : Nat} {L : List Int} {C : Cf} {v1 v2 v3 : Value} {X : ChX} (h : NewAt w xb mp fb n L C v1 v2 v3 k X V) (hk : k < C.2.2.length) (hxb : w.heap.size < xb) (a : AddH X L (C.2.2.getD k []) V V') : ∃ X', NewAt w xb mp fb n L C v1 v2 v3 (k + 1) X' V' := by
  obtain ⟨v, r, h1, h2, h3, h4⟩ := a
  obtain ⟨e1, e2, e3, e4, e5⟩ := h.hx
  have hbx := h.box
  refine ⟨X.more v r (C.2.2.getD k []), h1, ?_, h.hF, ⟨e1, e2, e3, e4, e5⟩, h4.kept hbx (fun e => e.elim (fun e => by omega) (fun e => ?_)), Only.old h.below h4 h.below.size (fun j e => e.elim (fun e => by omega) (h.own j)), fun g hg => ?_, fun i hi => ?_⟩
  · show X.H ++ [C.2.2.getD k []] = _
    rw [h.hH, take_snocH hk]
  · obtain ⟨cs, hcs⟩ := own_block h.at_.parts e
    exact kind_ne hbx hcs (by simp only [kindOf]; decide) rfl
  · rcases h3 g hg with e | e
    · exact h.own g e
    · exact Nat.le_trans h.below.size e
  · rw [X.more_len] at hi
    by_cases e : i < X.H.length
    · show w.heap.size ≤ updH X.rb X.H.length r i
      rw [updH_far _ _ (Nat.ne_of_lt e)]
      exact h.rb i e
    · obtain rfl : i = X.H.length := by omega
      show w.heap.size ≤ updH X.rb X.H.length r X.H.length
      rw [updH_same]
      exact Nat.le_trans h.below.size h2
/-- What New leaves. -/
def NewH (w : World) (mp fb n : Nat) (L : List Int) (C : Cf) (X : ChX) (w' : World) : Prop :=
  ChAt w' X (fun _ => 0) L (fun _ => []) ∧ X.H = C.2.2 ∧ X.fr = frC C ∧ X.mp = mp ∧ X.fb = fb ∧ X.n = n ∧ w.heap.size ≤ X.xb ∧ (∀ g, X.v.ownBlock = some g → w.heap.size ≤ g) ∧ (∀ i, i < X.H.length → w.heap.size ≤ X.rb i) ∧ Below w.heap.size w w'
theorem NewAt.done {w V : World} {xb mp fb n k : Nat} {L : List Int} {C : Cf} {v1 v2 v3 : Value} {X : ChX} (h : NewAt w xb mp fb n L C v1 v2 v3 k X V) (hk : C.2.2.length ≤ k) (hxb : w.heap.size < xb) : NewH w mp fb n L C X V := by
  obtain ⟨e1, e2, e3, e4, e5⟩ := h.hx
  exact ⟨h.at_, by rw [h.hH, List.take_of_length_le hk], h.hF, e2, e3, e4, by omega, h.own, h.rb, h.below⟩
theorem NewAt.start {w V : World} {mp fb n : Nat} {L : List Int} {C : Cf} {v1 v2 v3 : Value} (hm : MemSt w mp fb n L) (hw : ∀ i, 0 ≤ L.getD i 0 ∧ L.getD i 0 < 4294967296) (hb : BoxN w v1 v2 v3 V) : ∃ X, NewAt w V.heap.size mp fb n L C v1 v2 v3 0 X (V.alloc (.cells #[.pointer (some ⟨mp, 0, none⟩), .slice none 0 0] 70)) := by
  have hs := below_step1 V (.cells #[.pointer (some ⟨mp, 0, none⟩), .slice none 0 0] 70)
  have hb2 := hb.step hs
  refine ⟨⟨w.heap.size, V.heap.size, mp, fb, n, .slice none 0 0, [], frC C, fun _ => 0⟩, ⟨heap_alloc_new V _, ⟨rfl, Or.inl ⟨rfl, rfl⟩⟩, Nat.zero_le _, hm.below hb2.below, hw, fun i hi => absurd hi (by simp), fun i hi => absurd hi (by simp), fun i hi => absurd hi (by simp), fun i hi => absurd hi (by simp), fun i j _ hj => absurd hj (by simp), fun i j hi => absurd hi (by simp)⟩, rfl, rfl, ⟨rfl, rfl, rfl, rfl, rfl⟩, hb2.box, hb2.below, fun g hg => by simp [Value.ownBlock] at hg, fun i hi => absurd hi (by simp)⟩
section
variable {w : World} {mp fb n : Nat} {L : List Int} {v1 v2 v3 : Value} {C : Cf}
set_option maxHeartbeats 1000000 in
theorem newH_ok (hm : MemSt w mp fb n L) (hw : ∀ i, 0 ≤ L.getD i 0 ∧ L.getD i 0 < 4294967296) (CF : CfAt w v1 v2 v3 C) (hk : chk C = 0) (hn : framesC C ≤ (n : Int)) : Calls Try.prog 11 #[.pointer (some ⟨mp, 0, none⟩), .agg #[v1, v2, v3]] w fun e w' => ∃ X, e = .returned (.tuple #[.pointer (some ⟨X.xb, 0, none⟩), .int .i64 0]) ∧ NewH w mp fb n L C X w' := by
  have B1 := Lib.hid (BoxN.start (w := w) (v1 := v1) (v2 := v2) (v3 := v3))
  have F := Lib.hid fun V (hV : Below w.heap.size w V) => frames_some mp _ n n V (hm.below hV).cellM
  have K := Lib.hid fun V (hV : Below w.heap.size w V) => check_ok v1 v2 v3 C V (CF.below hV)
  have FR := Lib.hid fun V (hV : Below w.heap.size w V) => framesOf_ok v1 v2 v3 C V (CF.below hV)
  have AD := Lib.hid fun (V : World) (X : ChX) (k : Nat) (xb : Nat) (h : NewAt w xb mp fb n L C v1 v2 v3 k X V) (hkl : k < C.2.2.length) => add_okH h.at_ hk (CF.below h.below) k hkl h.hH h.hF (by rw [h.hx.2.2.2.1]; exact hn) (by rw [h.hx.2.2.2.2]; exact h.below.size)
  have ST := Lib.hid fun (V : World) (hb : BoxN w v1 v2 v3 V) => NewAt.start (C := C) hm hw hb
  rw [hk] at K
  have fa : framesA C = framesC C := by unfold framesA; rw [if_pos (chk_zero hk).1]
  rw [fa] at FR
  have n0 : ((n : Int) == 0) = false := by have := hm.pos; simp; omega
  have d0 : decide ((n : Int) < framesC C) = false := decide_eq_false (by omega)
  generalize framesC C = kk at FR d0
  obtain ⟨aa, cc, rfl, hl3, -, -⟩ := CF.hs
  obtain ⟨q, hq⟩ : ∃ q, q = C.2.2.length := ⟨_, rfl⟩
  have HQ := Lib.hid hq
  rw [← hq] at B1 K FR AD ST hl3 ⊢
  clear hm CF hk fa hn hw hq
  go_enter Try.func11, Try.ntmps11
  go_wp2_with fail
  refine (F.out _ B1.out.below).mono ?_
  rintro e w' ⟨rfl, rfl⟩
  go_wp2_with fail
  refine (K.out _ B1.out.below).mono ?_
  rintro e w2 ⟨rfl, hb⟩
  have B2 := Lib.hid (B1.out.step hb)
  have x0 := B2.out.box.c0
  have x1 := B2.out.box.c1
  have x2 := B2.out.box.c2
  clear hb
  go_wp2_with fail
  have B3 := Lib.hid (B2.out.step (Below.refl _ _).drew)
  go_region_held3 (fun V => V.cell? ⟨w.heap.size, 0, none⟩ = some v1 ∧ V.cell? ⟨w.heap.size, 1, none⟩ = some v2 ∧ V.cell? ⟨w.heap.size, 2, none⟩ = some (.slice aa q cc)) (first | exact ⟨x0, x1, x2⟩ | exact ⟨B4.out.box.c0, B4.out.box.c1, B4.out.box.c2⟩ | exact ⟨B3.out.box.c0, B3.out.box.c1, B3.out.box.c2⟩)
    (first
      | (go_at_call 30; first | (have h := B4.out; clear h; refine (F.out _ B4.out.below).mono ?_) | (refine (F.out _ B3.out.below).mono ?_); rintro e w' ⟨rfl, rfl⟩)
      | (go_at_call 27; refine (FR.out _ B3.out.below).mono ?_; rintro e w4 ⟨rfl, hb⟩; have B4 := Lib.hid (B3.out.step hb); clear hb))
  clear x0 x1 x2
  obtain ⟨X0, h0⟩ := ST.out w4 B4.out
  have N0 := Lib.hid h0
  have x2 := N0.out.box.c2
  obtain ⟨xb, hxb⟩ : ∃ xb, xb = w4.heap.size := ⟨_, rfl⟩
  have XL : Hid (w.heap.size < xb) := Lib.hid (by rw [hxb]; exact lt_of_block B4.out.box)
  rw [← hxb] at N0
  clear h0
  obtain ⟨w5, hw5⟩ : ∃ w5, w5 = w4.alloc (.cells #[.pointer (some ⟨mp, 0, none⟩), .slice none 0 0] 70) := ⟨_, rfl⟩
  rw [← hw5] at N0
  go_wp2_with fail
  rw [← hw5, ← hxb]
  clear hw5 hxb B4 B3 x2
  go_loopw [29] (fun i wr => ∃ (j : Nat) (X : ChX), i = .int .i64 (j : Int) ∧ j ≤ q ∧ NewAt w xb mp fb n L C v1 v2 (.slice aa q cc) j X wr) (fun i _ => (q - (intOf i).toNat))
  case atStart => exact ⟨0, X0, rfl, Nat.zero_le _, N0.out⟩
  case round =>
    obtain ⟨j, X, rfl, hj, h⟩ := hrel
    have NJ := Lib.hid h
    clear h
    by_cases hlt : j < q
    · have x0 := NJ.out.box.c0
      have x1 := NJ.out.box.c1
      have x2 := NJ.out.box.c2
      have AJ := AD.out wr X j xb NJ.out hlt
      rw [NJ.out.hx.1] at AJ
      have AJ := Lib.hid AJ
      go_wp2_with fail
      refine AJ.out.mono ?_
      rintro e w6 ⟨rfl, ha⟩
      obtain ⟨X', h'⟩ := NJ.out.more (by rw [← HQ.out]; exact hlt) XL.out ha
      have NJ' := Lib.hid h'
      clear h' ha x0 x1 x2
      go_wp2
      go_roundw
      case rel => exact ⟨j + 1, X', by go_num, by omega, NJ'.out⟩
      case measure => simp [intOf]; omega
    · obtain rfl : q = j := by omega
      go_wp2
      go_ret2
      exact ⟨X, by rw [NJ.out.hx.1]; rfl, NJ.out.done (by rw [← HQ.out]; exact Nat.le_refl _) XL.out⟩
end
end Go.Proofs.Ytnapodeiigkebaa
