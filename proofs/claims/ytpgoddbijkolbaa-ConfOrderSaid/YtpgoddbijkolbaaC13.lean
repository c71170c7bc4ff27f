/- The contracts of package conf's generic readAll at its three types. Condition: the reader lies as New laid it. Written by gen/gen_c13.py. -/
import Derived.Test.YtpgoddbijkolbaaC12
import Derived.OwnWalk
namespace Go.Proofs.Ytpgoddbijkolbaa
open Go.RowKit
set_option maxRecDepth 100000

def flatV (S : List Row) : List Value := S.flatMap fun T => T.map (Value.int .i64)
theorem flatV_snoc (S : List Row) (T : Row) : flatV (S ++ [T]) = flatV S ++ T.map (Value.int .i64) := by simp [flatV]
theorem flatV_length (k : Nat) : ∀ (S : List Row), (∀ T ∈ S, T.length = k) → (flatV S).length = S.length * k
  | [], _ => by simp [flatV]
  | T :: S, h => by
    have h1 := flatV_length k S (fun U hU => h U (by simp [hU]))
    have e : flatV (T :: S) = T.map (Value.int .i64) ++ flatV S := by simp [flatV]
    rw [e, List.length_append, h1, List.length_map, h T (by simp), List.length_cons, Nat.add_mul, Nat.one_mul, Nat.add_comm]
theorem flatV_get (k : Nat) : ∀ (S : List Row), (∀ T ∈ S, T.length = k) → ∀ i, i < S.length → ∀ j, j < k → (flatV S)[i * k + j]? = some (.int .i64 ((S.getD i []).getD j 0))
  | [], _, i, hi, _, _ => by simp at hi
  | T :: S, h, i, hi, j, hj => by
    have e : flatV (T :: S) = T.map (Value.int .i64) ++ flatV S := by simp [flatV]
    have hT : T.length = k := h T (by simp)
    rw [e]
    cases i with
    | zero =>
      rw [List.getElem?_append_left (by rw [List.length_map, hT]; omega)]
      simp [List.getD_eq_getElem?_getD, hT, hj]
    | succ i =>
      have h1 := flatV_get k S (fun U hU => h U (by simp [hU])) i (by simpa using hi) j hj
      rw [List.getElem?_append_right (by rw [List.length_map, hT, Nat.add_mul, Nat.one_mul]; omega), List.length_map, hT, show (i + 1) * k + j - k = i * k + j by rw [Nat.add_mul, Nat.one_mul]; omega, h1]
      simp
theorem own_rows {w : World} {base k : Nat} {e : TypeId} {v : Value} {S : List Row} (h : w.ownsRow base e k v S.length (flatV S)) (hT : ∀ T ∈ S, T.length = k) (hl : S.length ≤ 1000) : RowsAt k w v S := by
  have h' := h
  rcases h.2 with ⟨rfl, h0⟩ | ⟨g, cap, cur, rfl, _, hg, _⟩
  · have e : S = [] := List.eq_nil_of_length_eq_zero h0
    subst e
    exact RowsAt.nil k w
  · refine ⟨_, cap, rfl, hl, hT, Or.inr ⟨g, 0, rfl, lt_of_block hg, fun i hi j hj => ?_⟩⟩
    have := h'.cells (g := g) rfl _ _ (flatV_get k S hT i hi j hj)
    rwa [show (⟨g, 0, none⟩ : Addr).add (i * k + j) = ⟨g, 0 + i * k + j, none⟩ by unfold Addr.add; split <;> simp_all] at this
theorem own_keep {w w' : World} {base k n j : Nat} {e : TypeId} {v : Value} {xs : List Value} {ob : Obj} (h : w.ownsRow base e k v n xs) (hg : w.grownBy w' v.ownBlock) (hj : w.heap[j]? = some ob) (hb : j < base) : w'.heap[j]? = some ob :=
  (hg.block j (lt_of_block hj) (fun e => by have := (h.lt j e.symm).1; omega)).trans hj
theorem own_grown {a w w' : World} {k n b : Nat} {e : TypeId} {v : Value} {xs : List Value} (h : w.ownsRow a.heap.size e k v n xs) (hg : w.grownBy w' v.ownBlock) (ha : a.grownBy w (some b)) : a.grownBy w' (some b) :=
  ⟨hg.os.trans ha.os, hg.tape.trans ha.tape, hg.output.trans ha.output, Nat.le_trans ha.size hg.size, fun i hi hne => (hg.block i (Nat.lt_of_lt_of_le hi ha.size) (fun e => by have := (h.lt i e.symm).1; omega)).trans (ha.block i hi hne)⟩
theorem own_kind {w : World} {base k n : Nat} {e : TypeId} {v : Value} {xs : List Value} (h : w.ownsRow base e k v n xs) (he : e ≠ 5) : ∀ g, v.ownBlock = some g → ∃ cs t fz, w.heap[g]? = some (.cells cs t fz) ∧ t ≠ 5 := by
  intro g hg
  rcases h.2 with ⟨rfl, _⟩ | ⟨g', cap, cur, rfl, _, hgg, _⟩
  · simp [Value.ownBlock] at hg
  · simp [Value.ownBlock] at hg
    subst hg
    exact ⟨_, _, _, hgg, he⟩
def AllRel (w : World) (p q b : Nat) (ws : List Nat) (k : Nat) (t : TypeId) (l : List UInt8) (n : Nat) (lv i : Value) (wr : World) : Prop :=
  ∃ (j : Nat) (S : List Row) (r : List UInt8), i = .int .i64 (j : Int) ∧ j ≤ n ∧ rowsP ws j l = some (S, r) ∧ wr.ownsRow w.heap.size t k lv S.length (flatV S) ∧ Rd wr b (some r) ∧ RdV wr q b ∧ NumR wr p q ∧ w.grownBy wr (some b)
def ListPost (k : Nat) (w : World) (b : Nat) (o : Option (List Row × List UInt8)) (e : Ending) (w' : World) : Prop :=
  w.grownBy w' (some b) ∧ match o with
    | some (S, r) => ∃ v, e = .returned v ∧ RowsAt k w' v S ∧ Rd w' b (some r)
    | none => e = badE 6
theorem rowsP_shape {ws : List Nat} {n : Nat} {l r : List UInt8} {S : List Row} (h : rowsP ws n l = some (S, r)) : S.length = n ∧ ∀ T ∈ S, T.length = ws.length :=
  ⟨(rowsP_some ws n h).1, fun T hT => fitsR_length ws T ((rowsP_some ws n h).2.2 T hT)⟩

theorem info_part : (Try.prog.info? 41).map (fun i => (i.zero, i.size, i.bytes)) = some (some (.agg #[.int .i64 0, .int .i64 0]), 2, 16) := by kernel_rfl
theorem new_part (w : World) (x y : Int) : ∀ (j : Nat) (u : Value), ([.int .i64 x, .int .i64 y] : List Value)[j]? = some u → (w.alloc (.cells #[.int .i64 x, .int .i64 y] 41)).cell? ((⟨w.heap.size, 0, none⟩ : Addr).add j) = some u := fun j u hu => by
  rw [Addr.add_mid, cell_of_row _ _ _ _ _ _ (heap_alloc_new w _)]
  rw [show 0 + j = j by omega, ← hu]; simp
set_option maxHeartbeats 2000000 in
theorem readAll_part (p q b g : Nat) (caps : Array Value) (hent : ∀ (args : Array Value) (W : World), (callFunc g args).run Try.prog W = .ok (.enter g args) W) (l : List UInt8) (w : World) (h : Rd w b (some l)) (hq : RdV w q b) (hp : NumR w p q)
    (hr : ∀ (W : World) (m : List UInt8), Rd W b (some m) → RdV W q b → NumR W p q → Calls Try.prog g caps W (ReadPost rowVal W b (rowP pw m))) :
    Calls Try.prog 70 #[.func (.func 66) #[] #[.pointer (some ⟨q, 0, none⟩)], .func (.func g) #[] caps] w (ListPost 2 w b (listP pw l)) := by
  obtain ⟨ie, hi, hbi⟩ := Option.map_eq_some_iff.1 info_part
  simp only [Prod.mk.injEq] at hbi
  obtain ⟨hi0, hi1, hi2⟩ := hbi
  have hqlt := lt_of_block hq
  have hplt := lt_of_block hp
  have hblt := h.lt
  have hneq := hq.ne h
  have hnep := hp.ne h
  have HNUM := Lib.hid (rnum_conf q b 1 l (by decide) (by decide) w h hq)
  have HR := Lib.hid hr
  have HQ := Lib.hid hq
  have HP := Lib.hid hp
  clear h hq hp hr
  go_enter Try.func70, Try.ntmps70
  go_wp2_with fail
  refine HNUM.out.mono ?_
  cases hn : numP 1 l with
  | none =>
    rintro e w1 ⟨hg, rfl⟩
    exact ⟨rfl, hg, by rw [show listP pw l = none by simp [listP, hn]]⟩
  | some x =>
    obtain ⟨n, l1⟩ := x
    rintro e w1 ⟨hg, rfl, hr⟩
    have hn256 : n < 256 := by simpa using (numP_some hn).2
    have HL : Hid (listP pw l = rowsP pw n l1) := Lib.hid (by simp [listP, hn])
    have G1 := Lib.hid hg
    have R1 := Lib.hid hr
    have Q1 := Lib.hid (show RdV w1 q b from kept_block hg HQ.out hneq)
    have P1 := Lib.hid (show NumR w1 p q from kept_block hg HP.out hnep)
    clear hg hr hn HQ HP HNUM
    go_wp2_with fail
    go_loopw [5, 8] (fun lv i wr => AllRel w p q b pw 2 41 l1 n lv i wr) (fun _ i _ => (n - (intOf i).toNat))
    case atStart => exact ⟨0, [], l1, rfl, Nat.zero_le _, rfl, World.ownsRow_nil _ _ _ _, R1.out, Q1.out, P1.out, G1.out⟩
    case round =>
      obtain ⟨j, S, r, rfl, hj, hrows, hown, hr, hq, hp, hg⟩ := hrel
      obtain ⟨hSj, hST⟩ := rowsP_shape hrows
      have HST := Lib.hid hST
      have ROWS := Lib.hid hrows
      have O := Lib.hid hown
      have R := Lib.hid hr
      have Q := Lib.hid hq
      have P := Lib.hid hp
      have G := Lib.hid hg
      clear hrows hown hr hq hp hg hST
      by_cases hlt' : j < n
      · go_wp2_with fail
        refine (HR.out wr r R.out Q.out P.out).mono ?_
        cases hrow : rowP pw r with
        | none =>
          rintro e w2 ⟨hg, rfl⟩
          exact ⟨rfl, grownBy_trans G.out hg, by rw [HL.out, rowsP_none pw l1 (j + 1) (by rw [rowsP, ROWS.out]; simp [hrow]) n hlt']⟩
        | some x =>
          obtain ⟨T, r'⟩ := x
          obtain ⟨x, y, rfl⟩ := two_row (fitsR_length pw T (rowP_some pw hrow).2)
          rintro e w2 ⟨hg, rfl, hr⟩
          have ROWS2 : Hid (rowsP pw (j + 1) l1 = some (S ++ [[x, y]], r')) := Lib.hid (by rw [rowsP, ROWS.out]; simp [hrow])
          have O2 := Lib.hid (O.out.kept hg (by right; intro e; have := (O.out.lt b e).1; omega))
          have R2 := Lib.hid hr
          have Q2 := Lib.hid (show RdV w2 q b from kept_block hg Q.out hneq)
          have P2 := Lib.hid (show NumR w2 p q from kept_block hg P.out hnep)
          have G2 := Lib.hid (grownBy_trans G.out hg)
          clear hg hr hrow
          rw [show rowVal [x, y] = .agg #[.int .i64 x, .int .i64 y] from rfl]
          have A3 : Hid (Below w2.heap.size w2 (w2.alloc (.cells #[.int .i64 x, .int .i64 y] 41))) := Lib.hid ((Below.refl _ _).alloc (Nat.le_refl _) _)
          have O3 := Lib.hid (O2.out.alloc (.cells #[.int .i64 x, .int .i64 y] 41))
          have Z3 : Hid (w.heap.size ≤ (w2.alloc (.cells #[.int .i64 x, .int .i64 y] 41)).heap.size) := Lib.hid (Nat.le_trans G2.out.size A3.out.size)
          go_wp2_with (at_builtin; refine wpList_append_own _ rfl (.tmp 10) (.tmp 13) 22 rfl w.heap.size 41 ie (.agg #[.int .i64 0, .int .i64 0]) 2 16 Try.underlying22 hi hi0 hi1 hi2 rfl (by decide) _ S.length _ rfl O3.out ⟨w2.heap.size, 0, none⟩ 1 1 [.int .i64 x, .int .i64 y] rfl rfl (new_part w2 x y) (by simp [Value.oneCell']) (by unfold maxLen; omega) (by omega) Z3.out ?_; intro v4 w4 ho hg _)
          have O4 : Hid (w4.ownsRow w.heap.size 41 2 v4 (S ++ [[x, y]]).length (flatV (S ++ [[x, y]]))) := Lib.hid (by rw [flatV_snoc, List.length_append]; exact ho)
          have R4 := Lib.hid ((R2.out.below A3.out).apart (own_kind O3.out (by decide)) hg (by intro e; have := (O3.out.lt b e).1; omega))
          have Q4 := Lib.hid (show RdV w4 q b from own_keep O3.out hg (below_block A3.out Q2.out) hqlt)
          have P4 := Lib.hid (show NumR w4 p q from own_keep O3.out hg (below_block A3.out P2.out) hplt)
          have G4 := Lib.hid (own_grown O3.out hg (grownBy_trans G2.out (grownBy_of_below A3.out (some b))))
          clear ho hg
          go_wp2
          go_roundw
          case rel => exact ⟨j + 1, S ++ [[x, y]], r', by go_num, by omega, ROWS2.out, O4.out, R4.out, Q4.out, P4.out, G4.out⟩
          case measure => simp [intOf]; omega
      · obtain rfl : j = n := by omega
        clear hlt'
        go_wp2
        go_ret
        exact ⟨G.out, by rw [HL.out, ROWS.out]; exact ⟨_, rfl, own_rows O.out HST.out (by omega), R.out⟩⟩

theorem info_win : (Try.prog.info? 44).map (fun i => (i.zero, i.size, i.bytes)) = some (some (.agg #[.int .i64 0, .int .i64 0]), 2, 16) := by kernel_rfl
theorem new_win (w : World) (x y : Int) : ∀ (j : Nat) (u : Value), ([.int .i64 x, .int .i64 y] : List Value)[j]? = some u → (w.alloc (.cells #[.int .i64 x, .int .i64 y] 44)).cell? ((⟨w.heap.size, 0, none⟩ : Addr).add j) = some u := fun j u hu => by
  rw [Addr.add_mid, cell_of_row _ _ _ _ _ _ (heap_alloc_new w _)]
  rw [show 0 + j = j by omega, ← hu]; simp
set_option maxHeartbeats 2000000 in
theorem readAll_win (p q b g : Nat) (caps : Array Value) (hent : ∀ (args : Array Value) (W : World), (callFunc g args).run Try.prog W = .ok (.enter g args) W) (l : List UInt8) (w : World) (h : Rd w b (some l)) (hq : RdV w q b) (hp : NumR w p q)
    (hr : ∀ (W : World) (m : List UInt8), Rd W b (some m) → RdV W q b → NumR W p q → Calls Try.prog g caps W (ReadPost rowVal W b (rowP ww m))) :
    Calls Try.prog 72 #[.func (.func 66) #[] #[.pointer (some ⟨q, 0, none⟩)], .func (.func g) #[] caps] w (ListPost 2 w b (listP ww l)) := by
  obtain ⟨ie, hi, hbi⟩ := Option.map_eq_some_iff.1 info_win
  simp only [Prod.mk.injEq] at hbi
  obtain ⟨hi0, hi1, hi2⟩ := hbi
  have hqlt := lt_of_block hq
  have hplt := lt_of_block hp
  have hblt := h.lt
  have hneq := hq.ne h
  have hnep := hp.ne h
  have HNUM := Lib.hid (rnum_conf q b 1 l (by decide) (by decide) w h hq)
  have HR := Lib.hid hr
  have HQ := Lib.hid hq
  have HP := Lib.hid hp
  clear h hq hp hr
  go_enter Try.func72, Try.ntmps72
  go_wp2_with fail
  refine HNUM.out.mono ?_
  cases hn : numP 1 l with
  | none =>
    rintro e w1 ⟨hg, rfl⟩
    exact ⟨rfl, hg, by rw [show listP ww l = none by simp [listP, hn]]⟩
  | some x =>
    obtain ⟨n, l1⟩ := x
    rintro e w1 ⟨hg, rfl, hr⟩
    have hn256 : n < 256 := by simpa using (numP_some hn).2
    have HL : Hid (listP ww l = rowsP ww n l1) := Lib.hid (by simp [listP, hn])
    have G1 := Lib.hid hg
    have R1 := Lib.hid hr
    have Q1 := Lib.hid (show RdV w1 q b from kept_block hg HQ.out hneq)
    have P1 := Lib.hid (show NumR w1 p q from kept_block hg HP.out hnep)
    clear hg hr hn HQ HP HNUM
    go_wp2_with fail
    go_loopw [5, 8] (fun lv i wr => AllRel w p q b ww 2 44 l1 n lv i wr) (fun _ i _ => (n - (intOf i).toNat))
    case atStart => exact ⟨0, [], l1, rfl, Nat.zero_le _, rfl, World.ownsRow_nil _ _ _ _, R1.out, Q1.out, P1.out, G1.out⟩
    case round =>
      obtain ⟨j, S, r, rfl, hj, hrows, hown, hr, hq, hp, hg⟩ := hrel
      obtain ⟨hSj, hST⟩ := rowsP_shape hrows
      have HST := Lib.hid hST
      have ROWS := Lib.hid hrows
      have O := Lib.hid hown
      have R := Lib.hid hr
      have Q := Lib.hid hq
      have P := Lib.hid hp
      have G := Lib.hid hg
      clear hrows hown hr hq hp hg hST
      by_cases hlt' : j < n
      · go_wp2_with fail
        refine (HR.out wr r R.out Q.out P.out).mono ?_
        cases hrow : rowP ww r with
        | none =>
          rintro e w2 ⟨hg, rfl⟩
          exact ⟨rfl, grownBy_trans G.out hg, by rw [HL.out, rowsP_none ww l1 (j + 1) (by rw [rowsP, ROWS.out]; simp [hrow]) n hlt']⟩
        | some x =>
          obtain ⟨T, r'⟩ := x
          obtain ⟨x, y, rfl⟩ := two_row (fitsR_length ww T (rowP_some ww hrow).2)
          rintro e w2 ⟨hg, rfl, hr⟩
          have ROWS2 : Hid (rowsP ww (j + 1) l1 = some (S ++ [[x, y]], r')) := Lib.hid (by rw [rowsP, ROWS.out]; simp [hrow])
          have O2 := Lib.hid (O.out.kept hg (by right; intro e; have := (O.out.lt b e).1; omega))
          have R2 := Lib.hid hr
          have Q2 := Lib.hid (show RdV w2 q b from kept_block hg Q.out hneq)
          have P2 := Lib.hid (show NumR w2 p q from kept_block hg P.out hnep)
          have G2 := Lib.hid (grownBy_trans G.out hg)
          clear hg hr hrow
          rw [show rowVal [x, y] = .agg #[.int .i64 x, .int .i64 y] from rfl]
          have A3 : Hid (Below w2.heap.size w2 (w2.alloc (.cells #[.int .i64 x, .int .i64 y] 44))) := Lib.hid ((Below.refl _ _).alloc (Nat.le_refl _) _)
          have O3 := Lib.hid (O2.out.alloc (.cells #[.int .i64 x, .int .i64 y] 44))
          have Z3 : Hid (w.heap.size ≤ (w2.alloc (.cells #[.int .i64 x, .int .i64 y] 44)).heap.size) := Lib.hid (Nat.le_trans G2.out.size A3.out.size)
          go_wp2_with (at_builtin; refine wpList_append_own _ rfl (.tmp 10) (.tmp 13) 23 rfl w.heap.size 44 ie (.agg #[.int .i64 0, .int .i64 0]) 2 16 Try.underlying23 hi hi0 hi1 hi2 rfl (by decide) _ S.length _ rfl O3.out ⟨w2.heap.size, 0, none⟩ 1 1 [.int .i64 x, .int .i64 y] rfl rfl (new_win w2 x y) (by simp [Value.oneCell']) (by unfold maxLen; omega) (by omega) Z3.out ?_; intro v4 w4 ho hg _)
          have O4 : Hid (w4.ownsRow w.heap.size 44 2 v4 (S ++ [[x, y]]).length (flatV (S ++ [[x, y]]))) := Lib.hid (by rw [flatV_snoc, List.length_append]; exact ho)
          have R4 := Lib.hid ((R2.out.below A3.out).apart (own_kind O3.out (by decide)) hg (by intro e; have := (O3.out.lt b e).1; omega))
          have Q4 := Lib.hid (show RdV w4 q b from own_keep O3.out hg (below_block A3.out Q2.out) hqlt)
          have P4 := Lib.hid (show NumR w4 p q from own_keep O3.out hg (below_block A3.out P2.out) hplt)
          have G4 := Lib.hid (own_grown O3.out hg (grownBy_trans G2.out (grownBy_of_below A3.out (some b))))
          clear ho hg
          go_wp2
          go_roundw
          case rel => exact ⟨j + 1, S ++ [[x, y]], r', by go_num, by omega, ROWS2.out, O4.out, R4.out, Q4.out, P4.out, G4.out⟩
          case measure => simp [intOf]; omega
      · obtain rfl : j = n := by omega
        clear hlt'
        go_wp2
        go_ret
        exact ⟨G.out, by rw [HL.out, ROWS.out]; exact ⟨_, rfl, own_rows O.out HST.out (by omega), R.out⟩⟩

theorem info_chan : (Try.prog.info? 46).map (fun i => (i.zero, i.size, i.bytes)) = some (some (.agg #[.int .i64 0, .int .i64 0, .int .i64 0, .int .i64 0]), 4, 32) := by kernel_rfl
theorem new_chan (w : World) (x y z t : Int) : ∀ (j : Nat) (u : Value), ([.int .i64 x, .int .i64 y, .int .i64 z, .int .i64 t] : List Value)[j]? = some u → (w.alloc (.cells #[.int .i64 x, .int .i64 y, .int .i64 z, .int .i64 t] 46)).cell? ((⟨w.heap.size, 0, none⟩ : Addr).add j) = some u := fun j u hu => by
  rw [Addr.add_mid, cell_of_row _ _ _ _ _ _ (heap_alloc_new w _)]
  rw [show 0 + j = j by omega, ← hu]; simp
set_option maxHeartbeats 2000000 in
theorem readAll_chan (p q b g : Nat) (caps : Array Value) (hent : ∀ (args : Array Value) (W : World), (callFunc g args).run Try.prog W = .ok (.enter g args) W) (l : List UInt8) (w : World) (h : Rd w b (some l)) (hq : RdV w q b) (hp : NumR w p q)
    (hr : ∀ (W : World) (m : List UInt8), Rd W b (some m) → RdV W q b → NumR W p q → Calls Try.prog g caps W (ReadPost rowVal W b (rowP cw m))) :
    Calls Try.prog 74 #[.func (.func 66) #[] #[.pointer (some ⟨q, 0, none⟩)], .func (.func g) #[] caps] w (ListPost 4 w b (listP cw l)) := by
  obtain ⟨ie, hi, hbi⟩ := Option.map_eq_some_iff.1 info_chan
  simp only [Prod.mk.injEq] at hbi
  obtain ⟨hi0, hi1, hi2⟩ := hbi
  have hqlt := lt_of_block hq
  have hplt := lt_of_block hp
  have hblt := h.lt
  have hneq := hq.ne h
  have hnep := hp.ne h
  have HNUM := Lib.hid (rnum_conf q b 1 l (by decide) (by decide) w h hq)
  have HR := Lib.hid hr
  have HQ := Lib.hid hq
  have HP := Lib.hid hp
  clear h hq hp hr
  go_enter Try.func74, Try.ntmps74
  go_wp2_with fail
  refine HNUM.out.mono ?_
  cases hn : numP 1 l with
  | none =>
    rintro e w1 ⟨hg, rfl⟩
    exact ⟨rfl, hg, by rw [show listP cw l = none by simp [listP, hn]]⟩
  | some x =>
    obtain ⟨n, l1⟩ := x
    rintro e w1 ⟨hg, rfl, hr⟩
    have hn256 : n < 256 := by simpa using (numP_some hn).2
    have HL : Hid (listP cw l = rowsP cw n l1) := Lib.hid (by simp [listP, hn])
    have G1 := Lib.hid hg
    have R1 := Lib.hid hr
    have Q1 := Lib.hid (show RdV w1 q b from kept_block hg HQ.out hneq)
    have P1 := Lib.hid (show NumR w1 p q from kept_block hg HP.out hnep)
    clear hg hr hn HQ HP HNUM
    go_wp2_with fail
    go_loopw [5, 8] (fun lv i wr => AllRel w p q b cw 4 46 l1 n lv i wr) (fun _ i _ => (n - (intOf i).toNat))
    case atStart => exact ⟨0, [], l1, rfl, Nat.zero_le _, rfl, World.ownsRow_nil _ _ _ _, R1.out, Q1.out, P1.out, G1.out⟩
    case round =>
      obtain ⟨j, S, r, rfl, hj, hrows, hown, hr, hq, hp, hg⟩ := hrel
      obtain ⟨hSj, hST⟩ := rowsP_shape hrows
      have HST := Lib.hid hST
      have ROWS := Lib.hid hrows
      have O := Lib.hid hown
      have R := Lib.hid hr
      have Q := Lib.hid hq
      have P := Lib.hid hp
      have G := Lib.hid hg
      clear hrows hown hr hq hp hg hST
      by_cases hlt' : j < n
      · go_wp2_with fail
        refine (HR.out wr r R.out Q.out P.out).mono ?_
        cases hrow : rowP cw r with
        | none =>
          rintro e w2 ⟨hg, rfl⟩
          exact ⟨rfl, grownBy_trans G.out hg, by rw [HL.out, rowsP_none cw l1 (j + 1) (by rw [rowsP, ROWS.out]; simp [hrow]) n hlt']⟩
        | some x =>
          obtain ⟨T, r'⟩ := x
          obtain ⟨x, y, z, t, rfl⟩ := four_row (fitsR_length cw T (rowP_some cw hrow).2)
          rintro e w2 ⟨hg, rfl, hr⟩
          have ROWS2 : Hid (rowsP cw (j + 1) l1 = some (S ++ [[x, y, z, t]], r')) := Lib.hid (by rw [rowsP, ROWS.out]; simp [hrow])
          have O2 := Lib.hid (O.out.kept hg (by right; intro e; have := (O.out.lt b e).1; omega))
          have R2 := Lib.hid hr
          have Q2 := Lib.hid (show RdV w2 q b from kept_block hg Q.out hneq)
          have P2 := Lib.hid (show NumR w2 p q from kept_block hg P.out hnep)
          have G2 := Lib.hid (grownBy_trans G.out hg)
          clear hg hr hrow
          rw [show rowVal [x, y, z, t] = .agg #[.int .i64 x, .int .i64 y, .int .i64 z, .int .i64 t] from rfl]
          have A3 : Hid (Below w2.heap.size w2 (w2.alloc (.cells #[.int .i64 x, .int .i64 y, .int .i64 z, .int .i64 t] 46))) := Lib.hid ((Below.refl _ _).alloc (Nat.le_refl _) _)
          have O3 := Lib.hid (O2.out.alloc (.cells #[.int .i64 x, .int .i64 y, .int .i64 z, .int .i64 t] 46))
          have Z3 : Hid (w.heap.size ≤ (w2.alloc (.cells #[.int .i64 x, .int .i64 y, .int .i64 z, .int .i64 t] 46)).heap.size) := Lib.hid (Nat.le_trans G2.out.size A3.out.size)
          go_wp2_with (at_builtin; refine wpList_append_own _ rfl (.tmp 10) (.tmp 13) 24 rfl w.heap.size 46 ie (.agg #[.int .i64 0, .int .i64 0, .int .i64 0, .int .i64 0]) 4 32 Try.underlying24 hi hi0 hi1 hi2 rfl (by decide) _ S.length _ rfl O3.out ⟨w2.heap.size, 0, none⟩ 1 1 [.int .i64 x, .int .i64 y, .int .i64 z, .int .i64 t] rfl rfl (new_chan w2 x y z t) (by simp [Value.oneCell']) (by unfold maxLen; omega) (by omega) Z3.out ?_; intro v4 w4 ho hg _)
          have O4 : Hid (w4.ownsRow w.heap.size 46 4 v4 (S ++ [[x, y, z, t]]).length (flatV (S ++ [[x, y, z, t]]))) := Lib.hid (by rw [flatV_snoc, List.length_append]; exact ho)
          have R4 := Lib.hid ((R2.out.below A3.out).apart (own_kind O3.out (by decide)) hg (by intro e; have := (O3.out.lt b e).1; omega))
          have Q4 := Lib.hid (show RdV w4 q b from own_keep O3.out hg (below_block A3.out Q2.out) hqlt)
          have P4 := Lib.hid (show NumR w4 p q from own_keep O3.out hg (below_block A3.out P2.out) hplt)
          have G4 := Lib.hid (own_grown O3.out hg (grownBy_trans G2.out (grownBy_of_below A3.out (some b))))
          clear ho hg
          go_wp2
          go_roundw
          case rel => exact ⟨j + 1, S ++ [[x, y, z, t]], r', by go_num, by omega, ROWS2.out, O4.out, R4.out, Q4.out, P4.out, G4.out⟩
          case measure => simp [intOf]; omega
      · obtain rfl : j = n := by omega
        clear hlt'
        go_wp2
        go_ret
        exact ⟨G.out, by rw [HL.out, ROWS.out]; exact ⟨_, rfl, own_rows O.out HST.out (by omega), R.out⟩⟩

end Go.Proofs.Ytpgoddbijkolbaa
