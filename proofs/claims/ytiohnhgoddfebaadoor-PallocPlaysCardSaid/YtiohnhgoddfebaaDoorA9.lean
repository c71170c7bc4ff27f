/- The contract of package palloc's New. Conditions: the memory lies as New laid it, or there is none; the slice of ranges lies in memory. -/
import Derived.Test.YtiohnhgoddfebaaDoorA8
namespace Go.Proofs.YtiohnhgoddfebaaDoor
open Go.RowKit
set_option maxRecDepth 100000

/-- A slice of pairs of numbers in memory. -/
def PairsAt (w : World) (v : Value) (Q : List (Int × Int)) : Prop := ∃ a c, v = .slice a Q.length c ∧ (Q = [] ∨ ∃ b o, a = some ⟨b, o, none⟩ ∧ b < w.heap.size ∧ ∀ i, i < Q.length → w.cell? ⟨b, o + i * 2, none⟩ = some (.int .i64 (Q.getD i default).1) ∧ w.cell? ⟨b, o + i * 2 + 1, none⟩ = some (.int .i64 (Q.getD i default).2))
theorem PairsAt.below {w w' : World} {v : Value} {Q : List (Int × Int)} (h : PairsAt w v Q) (hb : Below w.heap.size w w') : PairsAt w' v Q := by
  obtain ⟨a, c, rfl, h | ⟨b, o, rfl, hlt, hc⟩⟩ := h
  · exact ⟨a, c, rfl, Or.inl h⟩
  · have e : ∀ j, w'.cell? ⟨b, j, none⟩ = w.cell? ⟨b, j, none⟩ := fun j => hb.cell (p := ⟨b, j, none⟩) hlt
    exact ⟨_, c, rfl, Or.inr ⟨b, o, rfl, Nat.lt_of_lt_of_le hlt hb.size, fun i hi => by rw [e, e]; exact hc i hi⟩⟩
/-- The same, in what old memory has. -/
theorem PairsAt.old {B : Nat} {w w' : World} {v : Value} {Q : List (Int × Int)} (h : PairsAt w v Q) (hb : Below B w w') (hB : w.heap.size ≤ B) : PairsAt w' v Q := by
  refine h.below ⟨hb.os, hb.tape, hb.output, hb.size, fun k hk => hb.block k (by omega)⟩
theorem pair_cells {w : World} {v : Value} {Q : List (Int × Int)} (h : PairsAt w v Q) (i : Nat) (hi : i < Q.length) : ∃ b o c x y, v = .slice (some ⟨b, o, none⟩) Q.length c ∧ b < w.heap.size ∧ Q.getD i default = (x, y) ∧ w.cell? ⟨b, o + i * 2, none⟩ = some (.int .i64 x) ∧ w.cell? ⟨b, o + i * 2 + 1, none⟩ = some (.int .i64 y) := by
  obtain ⟨a, c, rfl, h | ⟨b, o, rfl, hlt, hc⟩⟩ := h
  · rw [h] at hi; simp at hi
  · obtain ⟨c0, c1⟩ := hc i hi
    obtain ⟨x, hx⟩ : ∃ x, Q.getD i default = x := ⟨_, rfl⟩
    rw [hx] at c0 c1
    exact ⟨b, o, c, x.1, x.2, rfl, hlt, hx, c0, c1⟩
def natQ (Q : List (Int × Int)) : List (Nat × Nat) := Q.map fun q => (q.1.toNat, q.2.toNat)
theorem natQ_length (Q : List (Int × Int)) : (natQ Q).length = Q.length := by simp [natQ]
theorem natQ_get (Q : List (Int × Int)) (i : Nat) (h : i < Q.length) : (natQ Q).getD i (0, 0) = ((Q.getD i default).1.toNat, (Q.getD i default).2.toNat) := by simp [natQ, List.getD_eq_getElem?_getD, h]
theorem natQ_take (Q : List (Int × Int)) (k : Nat) (h : k < Q.length) : natQ (Q.take (k + 1)) = natQ (Q.take k) ++ [((Q.getD k default).1.toNat, (Q.getD k default).2.toNat)] := by
  unfold natQ
  rw [List.take_succ_eq_append_getElem h, List.map_append]
  congr 1
  simp [List.getD_eq_getElem?_getD, h]
/-- Each range may be, behind those ahead of it. -/
def OkTo (n : Nat) (Q : List (Int × Int)) (k : Nat) : Prop := ∀ i, i < k → RangeOk n (natQ (Q.take i)) (Q.getD i default).1 (Q.getD i default).2
def OkQ (n : Nat) (Q : List (Int × Int)) : Prop := (1 ≤ Q.length ∧ Q.length ≤ 8) ∧ OkTo n Q Q.length

/-- What New leaves. -/
def NewPool (mp fb n : Nat) (L : List Int) (Q : List (Int × Int)) (w : World) (e : Ending) (w' : World) : Prop :=
  (¬ OkQ n Q ∧ e = .returned (.tuple #[.pointer none, .int .i64 2]) ∧ Below w.heap.size w w') ∨
  (OkQ n Q ∧ ∃ X : PIx, e = .returned (.tuple #[.pointer (some ⟨X.pb, 0, none⟩), .int .i64 0]) ∧ PoolAt w' X L R0 ∧ X.mp = mp ∧ X.fb = fb ∧ X.n = n ∧ X.P = natQ Q ∧ (∀ k, X.all k → k = mp ∨ k = fb ∨ w.heap.size ≤ k) ∧ Below w.heap.size w w')
theorem newpool_nil (p : Option Addr) (a : Option Addr) (q c : Nat) (w : World) (h : NoMem w p) : Calls Tryd.prog 12 #[.pointer p, .slice a q c] w fun e w' => e = .returned (.tuple #[.pointer none, .int .i64 1]) ∧ w = w' := by
  rcases h with rfl | ⟨mp, rfl, hc⟩
  · go_enter Tryd.func12, Tryd.ntmps12
    go_wp2_with (go_at_call 26; refine (frames_nil _).mono ?_; rintro e w' ⟨rfl, rfl⟩)
    go_ret2
    exact ⟨rfl, rfl⟩
  · have HC := Lib.hid hc
    clear hc
    go_enter Tryd.func12, Tryd.ntmps12
    go_wp2_with (go_at_call 26; refine (frames_some _ _ _ _ _ HC.out).mono ?_; rintro e w' ⟨rfl, rfl⟩)
    go_ret2
    exact ⟨rfl, rfl⟩
theorem newpool_many (mp fb n : Nat) (L : List Int) (Q : List (Int × Int)) (v : Value) (w : World) (h : MemSt w mp fb n L) (hv : PairsAt w v Q) (hq : Q.length = 0 ∨ 8 < Q.length) : Calls Tryd.prog 12 #[.pointer (some ⟨mp, 0, none⟩), v] w (NewPool mp fb n L Q w) := by
  obtain ⟨a, c, rfl, _⟩ := hv
  have E : Hid (¬ OkQ n Q) := Lib.hid (fun e => by have := e.1; omega)
  have H := Lib.hid h
  have hn : ((n : Int) == 0) = false := by have := h.pos; simp; omega
  generalize Q.length = q at *
  clear h
  rcases hq with rfl | hq
  · go_enter Tryd.func12, Tryd.ntmps12
    go_wp2_with (go_at_call 26; refine (frames_some _ _ _ _ _ H.out.cellM).mono ?_; rintro e w' ⟨rfl, rfl⟩)
    go_ret2
    exact Or.inl ⟨E.out, rfl, Below.refl _ _⟩
  · have h1 : ((q : Int) == 0) = false := by simp; omega
    have h2 : decide (8 < q) = true := decide_eq_true hq
    go_enter Tryd.func12, Tryd.ntmps12
    go_wp2_with (go_at_call 26; refine (frames_some _ _ _ _ _ H.out.cellM).mono ?_; rintro e w' ⟨rfl, rfl⟩)
    go_ret2
    exact Or.inl ⟨E.out, rfl, Below.refl _ _⟩
def NewRel (w : World) (mp fb n : Nat) (L : List Int) (Q : List (Int × Int)) (X0 : PIx) (i : Value) (wr : World) : Prop :=
  ∃ (k : Nat) (X : PIx), i = .int .i64 (k : Int) ∧ k ≤ Q.length ∧ X.pb = X0.pb ∧ X.mp = mp ∧ X.fb = fb ∧ X.n = n ∧ X.base = w.heap.size ∧ PoolAt wr X L R0 ∧ X.P = natQ (Q.take k) ∧ OkTo n Q k ∧ (∀ j, X.all j → j = mp ∨ j = fb ∨ w.heap.size ≤ j) ∧ Below w.heap.size w wr
theorem build_pool (mp mb : Nat) : (Tryd.prog.built 52 [(0, .pointer (some ⟨mp, 0, none⟩)), (2, .map (some mb))]) = some #[.pointer (some ⟨mp, 0, none⟩), .slice none 0 0, .map (some mb)] := by kernel_rfl
set_option maxHeartbeats 2000000 in
theorem newpool_some (mp fb n : Nat) (L : List Int) (Q : List (Int × Int)) (v : Value) (w : World) (h : MemSt w mp fb n L) (hv : PairsAt w v Q) (h1 : 1 ≤ Q.length) (h8 : Q.length ≤ 8) : Calls Tryd.prog 12 #[.pointer (some ⟨mp, 0, none⟩), v] w (NewPool mp fb n L Q w) := by
  have HV := Lib.hid hv
  obtain ⟨a, c, rfl, _⟩ := hv
  have H := Lib.hid h
  have hn : ((n : Int) == 0) = false := by have := h.pos; simp; omega
  obtain ⟨q, hq⟩ : ∃ q, q = Q.length := ⟨_, rfl⟩
  rw [← hq] at h1 h8 ⊢
  have HQ := Lib.hid hq
  have hq0 : ((q : Int) == 0) = false := by simp; omega
  have hq8 : decide (8 < q) = false := decide_eq_false (by omega)
  clear h hq
  have hmm := @run_makeMap Tryd.prog
  go_enter Tryd.func12, Tryd.ntmps12
  go_wp2_with (go_at_call 26; refine (frames_some _ _ _ _ _ H.out.cellM).mono ?_; rintro e w' ⟨rfl, rfl⟩)
  obtain ⟨w2, hw2⟩ : ∃ w2, w2 = (w.alloc (.map #[] 0)).alloc (.cells #[.pointer (some ⟨mp, 0, none⟩), .slice none 0 0, .map (some w.heap.size)] 52) := ⟨_, rfl⟩
  have hb2 : Below w.heap.size w w2 := by rw [hw2]; exact below_two w _ _
  have PP : Hid (PoolAt w2 ⟨w.heap.size + 1, mp, fb, w.heap.size, w.heap.size, n, .slice none 0 0, []⟩ L R0) := Lib.hid ⟨H.out.below hb2, by rw [hw2]; exact heap_alloc2_new _ _ _, World.ownsRow_nil _ _ _ _, fun i hi => absurd hi (Nat.not_lt_zero _), (RefsAt.made w).same (by rw [hw2]; exact (heap_alloc2_old w _ _).trans (heap_alloc_new w _).symm), FitP.nil n H.out.top, fun i j hi => absurd hi (Nat.not_lt_zero _)⟩
  have B2 := Lib.hid hb2
  rw [← hw2]
  clear hw2 hb2
  have hL : ∀ j, (⟨w.heap.size + 1, mp, fb, w.heap.size, w.heap.size, n, .slice none 0 0, []⟩ : PIx).all j → j = mp ∨ j = fb ∨ w.heap.size ≤ j := fun j hj => by
    rcases hj with (e | e | e) | e | e | e
    · exact Or.inr (Or.inl e)
    · exact Or.inr (Or.inr (by rw [e]; exact Nat.le_refl _))
    · cases e
    · exact Or.inr (Or.inr (by rw [e]; exact Nat.le_succ _))
    · exact Or.inl e
    · cases e
  have HL := Lib.hid hL
  clear hL
  go_loopw [29] (fun i wr => NewRel w mp fb n L Q ⟨w.heap.size + 1, mp, fb, w.heap.size, w.heap.size, n, .slice none 0 0, []⟩ i wr) (fun i _ => q - (intOf i).toNat)
  case atStart => exact ⟨0, _, rfl, Nat.zero_le _, rfl, rfl, rfl, rfl, rfl, PP.out, rfl, fun i hi => absurd hi (Nat.not_lt_zero _), HL.out, B2.out⟩
  case round =>
    obtain ⟨k, X, rfl, hk, x1, x2, x3, x4, x5, hP, hXP, hok, hnew, hB⟩ := hrel
    have P := Lib.hid hP
    have B := Lib.hid hB
    have OK := Lib.hid hok
    have NW := Lib.hid hnew
    have XP := Lib.hid hXP
    have X1 := Lib.hid x1
    have X2 := Lib.hid x2
    have X3 := Lib.hid x3
    have X4 := Lib.hid x4
    have X5 := Lib.hid x5
    rw [← HQ.out] at hk
    clear hP hB hok hnew hXP x1 x2 x3 x4 x5
    have KL : Hid (X.T.length = k) := Lib.hid (by rw [← X.P_length, XP.out, natQ_length, List.length_take, ← HQ.out]; omega)
    by_cases hlt' : k < q
    · obtain ⟨b, o, c', x, y, hsl, hbw, hrow, e0, e1⟩ := pair_cells HV.out k (by rw [← HQ.out]; exact hlt')
      obtain ⟨rfl, rfl⟩ : a = some ⟨b, o, none⟩ ∧ c' = c := by cases hsl; exact ⟨rfl, rfl⟩
      have d0 := (B.out.cell (p := ⟨b, o + k * 2, none⟩) hbw).trans e0
      have d1 := (B.out.cell (p := ⟨b, o + k * 2 + 1, none⟩) hbw).trans e1
      have ROW := Lib.hid hrow
      have hbr : w.heap.size ≤ wr.heap.size := B.out.size
      have P1 := Lib.hid (P.out.below ((Below.refl _ _).alloc (Nat.le_refl _) (.cells #[.int .i64 x, .int .i64 y] 59)))
      have B1 := Lib.hid (B.out.alloc B.out.size (.cells #[.int .i64 x, .int .i64 y] 59))
      have C := add_any X L x y _ P1.out (by rw [KL.out]; omega) (by rw [X5.out]; exact B1.out.size)
      rw [X1.out] at C
      have CC := Lib.hid C
      clear hsl e0 e1 hrow C
      go_wp2_with fail
      refine CC.out.mono ?_
      rintro e w3 (⟨hno, rfl, hb⟩ | ⟨hyes, rfl, v, s, hp, hs, hv, ho⟩)
      · have NO := Lib.hid hno
        have B3 := Lib.hid (B1.out.trans (hb.mono B1.out.size))
        clear hno hb
        go_wp2
        go_ret2
        exact Or.inl ⟨fun e => NO.out (by have := e.2 k (by rw [← HQ.out]; exact hlt'); rw [ROW.out, ← XP.out, ← X4.out] at this; exact this), rfl, B3.out⟩
      · have YES := Lib.hid hyes
        have B3 := Lib.hid (ho.old B1.out B1.out.size (fun j hj => by
          rcases hj with e | e
          · rw [e, X1.out]; exact Nat.le_succ _
          · have := (P1.out.parts.lt j e).1; rw [X5.out] at this; exact this))
        have P3 := Lib.hid hp
        have S3 := Lib.hid (Nat.le_trans B1.out.size hs)
        have V3 := Lib.hid hv
        clear hyes hp hs hv ho
        go_wp2
        go_roundw
        case rel =>
          refine ⟨k + 1, X.more v s x.toNat y.toNat, by go_num, by rw [← HQ.out]; omega, X1.out, X2.out, X3.out, X4.out, X5.out, P3.out, ?_, ?_, ?_, B3.out⟩
          · rw [PIx.P, PIx.more, P_snoc, natQ_take _ _ (by rw [← HQ.out]; exact hlt'), ROW.out]
            exact congrArg (· ++ [(x.toNat, y.toNat)]) XP.out
          · intro j hj
            by_cases e : j = k
            · subst e
              have := YES.out
              rw [XP.out, X4.out] at this
              rw [ROW.out]; exact this
            · exact OK.out j (by omega)
          · rintro j ((e | e | e) | e | e | e)
            · exact NW.out j (Or.inl (Or.inl e))
            · exact NW.out j (Or.inl (Or.inr (Or.inl e)))
            · simp only [PIx.more, List.map_append, List.mem_append, List.map_cons, List.map_nil, List.mem_singleton] at e
              rcases e with e | e
              · exact NW.out j (Or.inl (Or.inr (Or.inr e)))
              · rw [e]; exact Or.inr (Or.inr S3.out)
            · exact NW.out j (Or.inr (Or.inl e))
            · exact NW.out j (Or.inr (Or.inr (Or.inl e)))
            · rcases V3.out j e with e | e
              · exact NW.out j (Or.inr (Or.inr (Or.inr e)))
              · exact Or.inr (Or.inr (Nat.le_trans B1.out.size e))
        case measure => simp [intOf]; omega
    · obtain rfl : k = q := by omega
      go_wp2
      go_ret2
      refine Or.inr ⟨⟨⟨by rw [← HQ.out]; exact h1, by rw [← HQ.out]; exact h8⟩, by rw [← HQ.out]; exact OK.out⟩, X, by rw [X1.out]; rfl, P.out, X2.out, X3.out, X4.out, ?_, NW.out, B.out⟩
      rw [XP.out, HQ.out, List.take_length]
theorem newpool_any (mp fb n : Nat) (L : List Int) (Q : List (Int × Int)) (v : Value) (w : World) (h : MemSt w mp fb n L) (hv : PairsAt w v Q) : Calls Tryd.prog 12 #[.pointer (some ⟨mp, 0, none⟩), v] w (NewPool mp fb n L Q w) := by
  by_cases h1 : 1 ≤ Q.length ∧ Q.length ≤ 8
  · exact newpool_some mp fb n L Q v w h hv h1.1 h1.2
  · exact newpool_many mp fb n L Q v w h hv (by omega)
end Go.Proofs.YtiohnhgoddfebaaDoor
