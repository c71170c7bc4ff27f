/- The contract of SlotsWhole's right. Condition: the processes are as scripts leave them. -/
import Derived.Test.YtbmiodkdoacbeaaY20
namespace Go.Proofs.Ytbmiodkdoacbeaa
open Go.RowKit Go.Maps
set_option maxRecDepth 100000

def cntC (pid : Int) (L : List Nd) : Nat := (L.filter fun x => decide (x.2.1 = pid)).length
def cntZ (pid : Int) (L : List Nd) : Nat := (L.filter fun x => decide (x.2.1 = pid) && decide (x.2.2.1 = 3)).length
theorem cntC_snoc (pid : Int) (L : List Nd) (x : Nd) : cntC pid (L ++ [x]) = cntC pid L + if x.2.1 = pid then 1 else 0 := by
  unfold cntC
  rw [List.filter_append, List.length_append]
  by_cases h : x.2.1 = pid <;> simp [h]
theorem cntZ_snoc (pid : Int) (L : List Nd) (x : Nd) : cntZ pid (L ++ [x]) = cntZ pid L + if x.2.1 = pid ∧ x.2.2.1 = 3 then 1 else 0 := by
  unfold cntZ
  rw [List.filter_append, List.length_append]
  by_cases h : x.2.1 = pid <;> by_cases h2 : x.2.2.1 = 3 <;> simp [h, h2]
theorem cntC_le (pid : Int) (L : List Nd) : cntC pid L ≤ L.length := List.length_filter_le _ _
theorem cntZ_le (pid : Int) (L : List Nd) : cntZ pid L ≤ L.length := List.length_filter_le _ _
theorem cntC_zero {pid : Int} {L : List Nd} (h : ∀ y ∈ L, y.2.1 ≠ pid) : cntC pid L = 0 := by
  unfold cntC
  rw [List.length_eq_zero_iff, List.filter_eq_nil_iff]
  intro y hy
  simpa using h y hy
theorem cntZ_zero {pid : Int} {L : List Nd} (h : zomb pid L = none) : cntZ pid L = 0 := by
  unfold cntZ
  rw [List.length_eq_zero_iff, List.filter_eq_nil_iff]
  intro y hy
  have := zomb_none.1 h y hy
  simpa using this
theorem cntC_pos {pid : Int} {L : List Nd} (h : hasCh pid L = true) : 0 < cntC pid L := by
  obtain ⟨y, hy, h2⟩ := hasCh_iff.1 h
  unfold cntC
  exact List.length_pos_of_mem (List.mem_filter.2 ⟨hy, by simpa using h2⟩)
/-- How many are no further than one. -/
def rankN (f : Int → Nat) (L : List Nd) (k : Nat) : Nat := (L.filter fun x => decide (f x.1 ≤ k)).length
theorem rankN_le (f : Int → Nat) (L : List Nd) (k : Nat) : rankN f L k ≤ L.length := List.length_filter_le _ _
theorem rankN_lt {f : Int → Nat} {L : List Nd} {x y : Nd} (hx : x ∈ L) (h : f y.1 < f x.1) : rankN f L (f y.1) < rankN f L (f x.1) := by
  unfold rankN
  induction L with
  | nil => cases hx
  | cons z r ih =>
    have mono : (r.filter fun z => decide (f z.1 ≤ f y.1)).length ≤ (r.filter fun z => decide (f z.1 ≤ f x.1)).length := by
      have e : (r.filter fun z => decide (f z.1 ≤ f y.1)) = (r.filter fun z => decide (f z.1 ≤ f x.1)).filter fun z => decide (f z.1 ≤ f y.1) := by
        rw [List.filter_filter]
        refine List.filter_congr fun z _ => ?_
        by_cases c : f z.1 ≤ f y.1
        · have : f z.1 ≤ f x.1 := by omega
          simp [c, this]
        · simp [c]
      rw [e]
      exact List.length_filter_le _ _
    rcases List.mem_cons.1 hx with rfl | hx
    · rw [List.filter_cons_of_neg (by simp; omega), List.filter_cons_of_pos (by simp)]
      simp only [List.length_cons]
      omega
    · have := ih hx
      by_cases c : f z.1 ≤ f y.1
      · rw [List.filter_cons_of_pos (by simpa using c), List.filter_cons_of_pos (by simp; omega)]
        simp only [List.length_cons]
        omega
      · by_cases c2 : f z.1 ≤ f x.1
        · rw [List.filter_cons_of_neg (by simpa using c), List.filter_cons_of_pos (by simpa using c2)]
          simp only [List.length_cons]
          omega
        · rw [List.filter_cons_of_neg (by simpa using c), List.filter_cons_of_neg (by simpa using c2)]
          exact this
theorem rankN_pos {f : Int → Nat} {L : List Nd} {x : Nd} (hx : x ∈ L) : 0 < rankN f L (f x.1) := List.length_pos_of_mem (List.mem_filter.2 ⟨hx, by simp⟩)
/-- A box that holds a process, in later memory. -/
structure BoxSt (w : World) (k : Nat) (x : Nd) (wr : World) : Prop where
  box : wr.heap[k]? = some (prO x)
  below : Below w.heap.size w wr
set_option maxHeartbeats 8000000 in
theorem right_ok (n : Int) (L : List Nd) (v : Value) (p : Nd) (w : World) (hg : GoodY n L) (hw : Wh 8 L) (hp : p ∈ L) (h : PrsAt w v L) :
    Calls Try.prog 20 #[v, prV p] w fun e w' => e = .returned (.bool true) ∧ Below w.heap.size w w' := by
  have H := Lib.hid h
  obtain ⟨a, c, rfl⟩ := h.form
  obtain ⟨N, hN⟩ : ∃ N, N = L.length := ⟨_, rfl⟩
  have hN8 : N ≤ 8 := by rw [hN]; have := hg.len; have := hg.most; omega
  have HN := Lib.hid hN
  rw [← hN] at H ⊢
  have HG := Lib.hid hg
  have HW := Lib.hid hw
  have HP := Lib.hid hp
  have hok := hg.ok p hp
  have hch : (p.2.2.1 = 2 → 0 < cntC p.1 L ∧ cntZ p.1 L = 0) ∧ (p.2.2.1 = 3 → cntC p.1 L = 0) ∧ (p.2.2.1 ≠ 3 → p.2.2.2 = 0) :=
    ⟨fun h2 => ⟨cntC_pos (hw.wait p hp h2).1, cntZ_zero ((hw.wait p hp h2).2 (by have := hg.most; omega))⟩, fun h3 => cntC_zero (hw.zom p hp h3), hw.code p hp⟩
  have HCH := Lib.hid hch
  obtain ⟨w1, hw1⟩ : ∃ w1, w1 = w.alloc (.cells #[.int .i64 p.1, .int .i64 p.2.1, .int .i64 p.2.2.1, .int .u32 p.2.2.2] 42) := ⟨_, rfl⟩
  have B1 : Hid (BoxSt w w.heap.size p w1) := Lib.hid ⟨by rw [hw1]; exact heap_alloc_new w _, by rw [hw1]; exact (Below.refl _ _).alloc (Nat.le_refl _) _⟩
  have HB : Hid (∀ V, Below w.heap.size w V → PrsAt V (.slice a N c) L) := Lib.hid fun V hV => H.out.below hV
  clear h hN hg hw hp hch
  unfold prV
  obtain ⟨p1, p2, p3, p4⟩ := p
  simp only at hw1 hok ⊢
  have hst : 1 ≤ p3 ∧ p3 ≤ 3 := hok.2.2.1
  clear hok
  go_enter Try.func20, Try.ntmps20
  go_wp2_with fail
  rw [← hw1]
  clear hw1
  go_loopw [5, 6, 7] (fun s z i wr => ∃ j : Nat, i = .int .i64 (j : Int) ∧ j ≤ N ∧ s = .int .i64 (cntC p1 (L.take j) : Int) ∧ z = .int .i64 (cntZ p1 (L.take j) : Int) ∧ BoxSt w w.heap.size (p1, p2, p3, p4) wr) (fun _ _ i _ => (N - (intOf i).toNat))
  case atStart => exact ⟨0, rfl, Nat.zero_le _, by simp [cntC], by simp [cntZ], B1.out⟩
  case round =>
    obtain ⟨j, rfl, hj, rfl, rfl, hB⟩ := hrel
    have BB := Lib.hid hB
    obtain ⟨b0, b1, b2, b3, -⟩ := prO_cells hB.box
    simp only at b0 b1 b2 b3
    clear hB
    by_cases hlt : j < N
    · have hjl : j < L.length := by rw [← HN.out]; exact hlt
      obtain ⟨⟨y, y1, y2, y3⟩, hy⟩ : ∃ y, L.getD j default = y := ⟨_, rfl⟩
      obtain ⟨b, rfl, hbl, -, c1, c2, -⟩ := (HB.out wr BB.out.below).at_ hjl hy
      simp only at c1 c2
      have e1 := cntC_snoc p1 (L.take j) (L.getD j default)
      have e2 := cntZ_snoc p1 (L.take j) (L.getD j default)
      rw [← take_snoc hjl, hy] at e1 e2
      simp only at e1 e2
      have l1 := cntC_le p1 (L.take j)
      have l2 := cntZ_le p1 (L.take j)
      rw [List.length_take] at l1 l2
      obtain ⟨sC, hsC⟩ : ∃ sC, sC = cntC p1 (L.take j) := ⟨_, rfl⟩
      obtain ⟨sZ, hsZ⟩ : ∃ sZ, sZ = cntZ p1 (L.take j) := ⟨_, rfl⟩
      rw [← hsC] at e1 l1 ⊢
      rw [← hsZ] at e2 l2 ⊢
      have l1' : sC ≤ 8 := by omega
      have l2' : sZ ≤ 8 := by omega
      by_cases h1 : y1 = p1
      · have d1 : (y1 == p1) = true := by simpa using h1
        rw [if_pos h1] at e1
        by_cases h2 : y2 = 3
        · rw [if_pos ⟨h1, h2⟩] at e2
          subst h2
          have E := Lib.hid (And.intro e1 e2)
          clear e1 e2 hsC hsZ l1 l2 hy
          go_wp2
          go_quiet (fail)
          go_wp2
          go_roundw
          case rel => exact ⟨j + 1, by go_num, by omega, by rw [E.out.1]; go_num, by rw [E.out.2]; go_num, BB.out.box, below_drewN BB.out.below _⟩
          case measure => simp [intOf]; omega
        · have d2 : (y2 == 3) = false := by simpa using h2
          rw [if_neg (fun e => h2 e.2)] at e2
          have E := Lib.hid (And.intro e1 e2)
          clear e1 e2 hsC hsZ l1 l2 hy h2
          go_wp2
          go_quiet (fail)
          go_wp2
          go_roundw
          case rel => exact ⟨j + 1, by go_num, by omega, by rw [E.out.1]; go_num, by rw [E.out.2]; rfl, BB.out.box, below_drewN BB.out.below _⟩
          case measure => simp [intOf]; omega
      · have d1 : (y1 == p1) = false := by simpa using h1
        rw [if_neg h1] at e1
        rw [if_neg (fun e => h1 e.1)] at e2
        have E := Lib.hid (And.intro e1 e2)
        clear e1 e2 hsC hsZ l1 l2 hy h1
        go_wp2
        go_quiet (fail)
        go_wp2
        go_roundw
        case rel => exact ⟨j + 1, by go_num, by omega, by rw [E.out.1]; rfl, by rw [E.out.2]; rfl, BB.out.box, below_drewN BB.out.below _⟩
        case measure => simp [intOf]; omega
    · obtain rfl : j = N := by omega
      have e1 : L.take j = L := by rw [HN.out, List.take_length]
      rw [e1]
      clear hlt e1
      obtain ⟨sC, hsC⟩ : ∃ sC, sC = cntC p1 L := ⟨_, rfl⟩
      obtain ⟨sZ, hsZ⟩ : ∃ sZ, sZ = cntZ p1 L := ⟨_, rfl⟩
      have hc := HCH.out
      change (p3 = 2 → 0 < cntC p1 L ∧ cntZ p1 L = 0) ∧ (p3 = 3 → cntC p1 L = 0) ∧ (p3 ≠ 3 → p4 = 0) at hc
      rw [← hsC, ← hsZ] at hc
      rw [← hsC, ← hsZ]
      have l1 := cntC_le p1 L
      have l2 := cntZ_le p1 L
      rw [← hsC, ← HN.out] at l1
      rw [← hsZ, ← HN.out] at l2
      have HC := Lib.hid hc
      obtain ⟨f, f0, hf⟩ := HW.out.tree
      obtain ⟨w2, hw2⟩ : ∃ w2, w2 = wr.alloc (.cells #[.int .i64 p1, .int .i64 p2, .int .i64 p3, .int .u32 p4] 42) := ⟨_, rfl⟩
      have B2 : Hid (BoxSt w wr.heap.size (p1, p2, p3, p4) w2) := Lib.hid ⟨by rw [hw2]; exact heap_alloc_new wr _, BB.out.below.trans ((by rw [hw2]; exact (Below.refl _ _).alloc (Nat.le_refl _) _ : Below wr.heap.size wr w2).mono BB.out.below.size)⟩
      have HF := Lib.hid hf
      have ZW : Hid (w.heap.size ≤ wr.heap.size) := Lib.hid BB.out.below.size
      have fin : Hid (∀ (Q : Prop), (p3 = 1 ∧ p4 = 0 → Q) → (p3 = 2 ∧ p4 = 0 ∧ 0 < sC ∧ sZ = 0 → Q) → (p3 = 3 ∧ sC = 0 → Q) → Q) := Lib.hid fun Q q1 q2 q3 => by
        rcases (show p3 = 1 ∨ p3 = 2 ∨ p3 = 3 by omega) with h | h | h
        · exact q1 ⟨h, HC.out.2.2 (by omega)⟩
        · exact q2 ⟨h, HC.out.2.2 (by omega), HC.out.1 h⟩
        · exact q3 ⟨h, HC.out.2.1 h⟩
      clear hsC hsZ hc f0 hf
      have NXT : Hid (∀ (V : World) (z : Nd) (u0 u1 u2 u3 : Int), BoxSt w wr.heap.size z V → BoxSt w wr.heap.size (u0, u1, u2, u3) ((((V.setCell ⟨wr.heap.size, 0, none⟩ (.int .i64 u0)).setCell ⟨wr.heap.size, 1, none⟩ (.int .i64 u1)).setCell ⟨wr.heap.size, 2, none⟩ (.int .i64 u2)).setCell ⟨wr.heap.size, 3, none⟩ (.int .u32 u3))) := Lib.hid fun V z u0 u1 u2 u3 hz =>
        ⟨heap_setCell_same _ _ 3 _ _ _ (heap_setCell_same _ _ 2 _ _ _ (heap_setCell_same _ _ 1 _ _ _ (heap_setCell_same _ _ 0 _ _ _ hz.box))), (((hz.below.setCell (p := ⟨wr.heap.size, 0, none⟩) ZW.out _).setCell (p := ⟨wr.heap.size, 1, none⟩) ZW.out _).setCell (p := ⟨wr.heap.size, 2, none⟩) ZW.out _).setCell (p := ⟨wr.heap.size, 3, none⟩) ZW.out _⟩
      refine fin.out _ ?_ ?_ ?_
      all_goals
        intro hcase
        first | (obtain ⟨rfl, rfl⟩ := hcase) | (obtain ⟨rfl, rfl, hs1, rfl⟩ := hcase)
        try have d1 : ((sC : Int) == 0) = false := by simp; omega
        go_wp2_with fail
        rw [← hw2]
        clear hw2 b0 b1 b2 b3
        go_loopw [9] (fun i wr2 => ∃ (q : Nat) (y : Nd), i = .int .i64 (q : Int) ∧ y ∈ L ∧ q + rankN f L (f y.1) ≤ j ∧ BoxSt w wr.heap.size y wr2) (fun i _ => (j + 1 - (intOf i).toNat))
        case atStart => exact ⟨0, _, rfl, HP.out, by have := rankN_le f L (f p1); have := HN.out; simp only; omega, B2.out⟩
        case round =>
          obtain ⟨q, y, rfl, hy, hq, hB⟩ := hrel
          have BQ := Lib.hid hB
          have hrp := rankN_pos (f := f) hy
          obtain ⟨b0, b1, b2, b3, bf⟩ := prO_cells hB.box
          obtain ⟨z0, z1, z2, z3⟩ := y
          simp only at b0 b1 b2 b3
          clear hB
          by_cases h1 : z0 = 1
          · subst h1
            go_wp2
            go_ret
            exact ⟨rfl, BQ.out.below⟩
          · have d0 : (z0 == 1) = false := by simpa using h1
            obtain ⟨u, hu, hu1, hu2⟩ := HF.out _ hy h1
            have hat : atN z1 L = some u := by have := atN_mem HG.out.up hu; rw [hu1] at this; exact this
            obtain ⟨hpl, hpx⟩ := pos_at hat
            have AT := Lib.hid (ratY L _ z1 _ (by have := HN.out; omega) (HB.out _ BQ.out.below) (atIY_some hat))
            obtain ⟨k, hk⟩ : ∃ k, posN z1 L = k := ⟨_, rfl⟩
            rw [hk] at AT hpl hpx
            have hkn : k < j := by have := HN.out; omega
            obtain ⟨⟨u0, u1, u2, u3⟩, hue⟩ : ∃ y, u = y := ⟨_, rfl⟩
            subst hue
            have hlt2 := rankN_lt (f := f) hy hu2
            obtain ⟨b, rfl, hbl, c0, c1, c2, c3⟩ := (HB.out _ BQ.out.below).at_ hpl hpx
            simp only at c0 c1 c2 c3 hlt2 hrp hq
            have f0 := bf 0
            have f1 := bf 1
            have f2 := bf 2
            have f3 := bf 3
            have HU := Lib.hid hu
            have HQ := Lib.hid (And.intro hq hlt2)
            have NX := Lib.hid (NXT.out _ _ u0 u1 u2 u3 BQ.out)
            have hqj : q ≤ j := by omega
            clear hu hu1 hu2 hat hk hpx hpl hy h1 hlt2 bf hrp hq
            go_wp2_with fail
            refine AT.out.mono ?_
            rintro e w5 ⟨rfl, rfl⟩
            go_wp2
            go_roundw
            case rel => exact ⟨q + 1, _, by go_num, HU.out, by have := HQ.out.1; have := HQ.out.2; simp only at *; omega, NX.out⟩
            case measure => simp [intOf]; omega
end Go.Proofs.Ytbmiodkdoacbeaa
