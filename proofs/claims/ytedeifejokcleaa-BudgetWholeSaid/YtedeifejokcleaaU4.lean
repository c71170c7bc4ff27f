/- The contracts of package budget's of, left, Left. Condition: the budget lies as New laid it. -/
import Derived.Test.YtedeifejokcleaaU3
import Derived.Laws.OwnMore
namespace Go.Proofs.Ytedeifejokcleaa
open Go.RowKit Go.Maps
set_option maxRecDepth 100000

theorem enters_left1 (args : Array Value) (W : World) : (callFunc 36 args).run Try.prog W = .ok (.enter 36 args) W := enters Try.func36 rfl rfl args W
theorem box1 {w : World} {k : Nat} {a : Value} {t : TypeId} (h : w.heap[k]? = some (.cells #[a] t (0, 0))) : w.cell? ⟨k, 0, none⟩ = some a ∧ w.frozen? ⟨k, 0, none⟩ = false :=
  ⟨cell_of_one h, free_of_one h⟩
theorem leftIt_no (p bo bl q : Nat) (n o : Nd) (w : World) (hn : w.heap[p]? = some (ndO n)) (hq : w.heap[q]? = some (ndO o)) (hbo : w.heap[bo]? = some (.cells #[.pointer (some ⟨q, 0, none⟩)] 57 (0, 0))) (hne : n.2.1 ≠ o.1) :
    Calls Try.prog 36 #[.pointer (some ⟨p, 0, none⟩), .pointer (some ⟨bo, 0, none⟩), .pointer (some ⟨bl, 0, none⟩)] w fun e w' => e = .returned (.tuple #[]) ∧ ∃ k, w' = w.drewN k := by
  obtain ⟨a0, a1, a2, a3, -⟩ := ndO_cells hn
  obtain ⟨b0, b1, b2, b3, -⟩ := ndO_cells hq
  obtain ⟨c0, -⟩ := box1 hbo
  have he : (n.2.1 == o.1) = false := by simpa using hne
  clear hn hq hbo hne
  generalize n.2.1 = x at *
  generalize o.1 = y at *
  go_enter Try.func36, Try.ntmps36
  go_wp2
  go_quiet (fail)
  go_wp2
  go_end0
  exact ⟨rfl, _, rfl⟩
theorem leftIt_yes (p bo bl q : Nat) (n o : Nd) (s d : Int) (w : World) (hn : w.heap[p]? = some (ndO n)) (hq : w.heap[q]? = some (ndO o)) (hbo : w.heap[bo]? = some (.cells #[.pointer (some ⟨q, 0, none⟩)] 57 (0, 0))) (hbl : w.heap[bl]? = some (.cells #[.int .i64 s] 3 (0, 0))) (hne : n.2.1 = o.1)
    (hs : -1000000 ≤ s ∧ s ≤ 65536) (hok : okN n) (hd : d = s - n.2.2.1) :
    Calls Try.prog 36 #[.pointer (some ⟨p, 0, none⟩), .pointer (some ⟨bo, 0, none⟩), .pointer (some ⟨bl, 0, none⟩)] w fun e w' => e = .returned (.tuple #[]) ∧ w'.heap[bl]? = some (.cells #[.int .i64 d] 3 (0, 0)) ∧ w.grownBy w' (some bl) := by
  obtain ⟨a0, a1, a2, a3, -⟩ := ndO_cells hn
  obtain ⟨b0, b1, b2, b3, -⟩ := ndO_cells hq
  obtain ⟨c0, -⟩ := box1 hbo
  obtain ⟨d0, f0⟩ := box1 hbl
  have he : (n.2.1 == o.1) = true := by simpa using hne
  have hq2 := hok.2.2.1
  have HD := Lib.hid hd
  have HBL := Lib.hid hbl
  clear hn hq hbo hbl hne hok hd
  generalize n.2.1 = x at *
  generalize n.2.2.1 = z at *
  generalize o.1 = y at *
  have hw : IntKind.i64.wrap (s - z) = s - z := IntWalk.i64_in _ (by omega)
  go_enter Try.func36, Try.ntmps36
  go_wp2
  go_quiet (fail)
  go_wp2
  obtain ⟨W2, hW2⟩ : ∃ W2, W2 = w.drewN nq := ⟨_, rfl⟩
  have g0 : W2.cell? ⟨p, 2, none⟩ = some (.int .i64 z) := by rw [hW2]; exact a2
  have g1 : W2.cell? ⟨bl, 0, none⟩ = some (.int .i64 s) := by rw [hW2]; exact d0
  have g2 : W2.frozen? ⟨bl, 0, none⟩ = false := by rw [hW2]; exact f0
  have G3 : Hid (W2.heap[bl]? = some (.cells #[.int .i64 s] 3 (0, 0)) ∧ w.grownBy W2 (some bl)) := Lib.hid (by rw [hW2]; exact ⟨HBL.out, grownBy_of_below (below_drewN (Below.refl _ _) _) _⟩)
  rw [← hW2]
  clear hW2 a0 a1 a2 a3 b0 b1 b2 b3 c0 d0 f0 he
  go_still_tail 6, (by kernel_rfl)
  go_wp2
  go_end0
  refine ⟨rfl, ?_, grownBy_trans G3.out.2 (grownBy_heap (grownBy_setCell _ _ _ _) rfl rfl rfl rfl)⟩
  have := heap_setCell_same W2 bl 0 _ _ (.int .i64 (s - z)) G3.out.1
  rw [HD.out]
  exact this

/-- What left has reckoned. -/
structure LftSt (w : World) (b m : Nat) (P : Pt) (L : List Nd) (q : Nat) (n : Nd) (j : Int) (V : World) : Prop where
  st : BudAt V b m P L
  below : Below w.heap.size w V
  node : V.heap[w.heap.size]? = some (.cells #[.pointer (some ⟨q, 0, none⟩)] 57 (0, 0))
  left : V.heap[w.heap.size + 1]? = some (.cells #[.int .i64 (n.2.2.1 - n.2.2.2 - sumUp n.1 (preN j L))] 3 (0, 0))
theorem preN_sub {L : List Nd} (h : Good L) (j : Int) : (∀ n ∈ preN j L, okN n) ∧ (preN j L).length ≤ 8 :=
  ⟨fun n hn => h.ok n (List.mem_filter.1 hn).1, Nat.le_trans (List.length_filter_le _ _) h.len⟩
theorem left_round {w : World} {b m : Nat} {P : Pt} {L : List Nd} {q : Nat} {n : Nd} {j : Int} {V : World} (h : LftSt w b m P L q n j V) (hq : P n.1 = some q) (hn : atN n.1 L = some n) {p : Nat} (hp : P j = some p) :
    Calls Try.prog 36 #[.pointer (some ⟨p, 0, none⟩), .pointer (some ⟨w.heap.size, 0, none⟩), .pointer (some ⟨w.heap.size + 1, 0, none⟩)] V fun e w' => e = .returned (.tuple #[]) ∧ LftSt w b m P L q n (j + 1) w' := by
  obtain ⟨x, hx, hpx⟩ := h.st.node hp
  obtain ⟨n', hn', hqn⟩ := h.st.node hq
  obtain rfl : n = n' := by rw [hn] at hn'; exact Option.some.inj hn'
  have hg := h.st.good
  have e1 := preN_some hg hx
  have hox := hg.ok x (atN_some hx).1
  have hon := hg.ok n (atN_some hn).1
  have hsb := sumUp_bounds n.1 (preN_sub hg j).1
  have hsl := (preN_sub hg j).2
  have e2 : sumUp n.1 (preN (j + 1) L) = sumUp n.1 (preN j L) + (if x.2.1 = n.1 then x.2.2.1 else 0) := by rw [e1, sumUp_append]; simp [sumUp]
  by_cases hu : x.2.1 = n.1
  · refine (leftIt_yes p _ _ q x n _ (n.2.2.1 - n.2.2.2 - sumUp n.1 (preN (j + 1) L)) V hpx hqn h.node h.left hu (by omega) hox (by rw [e2, if_pos hu]; omega)).mono ?_
    rintro e w' ⟨rfl, h1, h2⟩
    have hbl : ¬ bB m P (w.heap.size + 1) := by
      rintro (e | ⟨id, hp⟩)
      · obtain ⟨es, ck, hm⟩ := h.st.map.isMap
        have := h.left
        rw [e, hm] at this
        cases this
      · obtain ⟨y, _, h3⟩ := h.st.node hp
        have := h.left
        rw [h3] at this
        exact absurd (show (some 49 : Option Nat) = some 3 from congrArg kindOf (Option.some.inj this)) (by decide)
    have hne : b ≠ w.heap.size + 1 := fun e => by
      have := h.st.box
      rw [e, h.left] at this
      exact absurd (show (some 3 : Option Nat) = some 42 from congrArg kindOf (Option.some.inj this)) (by decide)
    exact ⟨rfl, h.st.kept (h2.block _ (lt_of_block h.st.box) (fun e => hne (Option.some.inj e))) (fun k hk => h2.block k (h.st.lt hk) (fun e => hbl (Option.some.inj e ▸ hk))),
      h.below.trans (below_of_grownBy h2 h.below.size (by omega)), (h2.block _ (lt_of_block h.node) (fun e => by have := Option.some.inj e; omega)).trans h.node, h1⟩
  · refine (leftIt_no p _ (w.heap.size + 1) q x n V hpx hqn h.node hu).mono ?_
    rintro e w' ⟨rfl, k, rfl⟩
    have hb : Below V.heap.size V (V.drewN k) := below_drewN (Below.refl _ _) k
    refine ⟨rfl, h.st.step hb, below_drewN h.below k, h.node, ?_⟩
    rw [e2, if_neg hu, Int.add_zero]
    exact h.left
set_option maxHeartbeats 1000000 in
theorem left_ok {w : World} {b m : Nat} {P : Pt} {L : List Nd} {q : Nat} {n : Nd} (h : BudAt w b m P L) (hq : P n.1 = some q) (hn : atN n.1 L = some n) :
    Calls Try.prog 29 #[.pointer (some ⟨b, 0, none⟩), .pointer (some ⟨q, 0, none⟩)] w fun e w' => e = .returned (.int .i64 (leftN L n)) ∧ Below w.heap.size w w' := by
  have hmf : ∀ (fn : Fn) (first cap : Array Value) (w : World), (Instr.makeFunc fn first cap).run Try.prog w = .ok (.func fn first cap) w := fun _ _ _ _ => rfl
  obtain ⟨n', hn', hqn⟩ := h.node hq
  obtain rfl : n = n' := by rw [hn] at hn'; exact Option.some.inj hn'
  have hqlt := lt_of_block hqn
  have hok := h.good.ok n (atN_some hn).1
  obtain ⟨a0, a1, a2, a3, -⟩ := ndO_cells hqn
  have HK := Lib.hid (show okN n from hok)
  have hw : IntKind.i64.wrap (n.2.2.1 - n.2.2.2) = n.2.2.1 - n.2.2.2 := IntWalk.i64_in _ (by omega)
  obtain ⟨w1, hw1⟩ : ∃ w1, w1 = w.alloc (.cells #[.pointer (some ⟨q, 0, none⟩)] 57) := ⟨_, rfl⟩
  have B1 : Hid (Below w.heap.size w w1) := Lib.hid (by rw [hw1]; exact (Below.refl _ _).alloc (Nat.le_refl _) _)
  have N1 : Hid (w1.heap[w.heap.size]? = some (.cells #[.pointer (some ⟨q, 0, none⟩)] 57 (0, 0))) := Lib.hid (by rw [hw1]; exact heap_alloc_new w _)
  have S1 : Hid (w1.heap.size = w.heap.size + 1) := Lib.hid (by rw [hw1]; simp)
  have H := Lib.hid h
  have HQ := Lib.hid hq
  have HN := Lib.hid hn
  have g2 : w1.cell? ⟨q, 2, none⟩ = some (.int .i64 n.2.2.1) := (B1.out.cell (p := ⟨q, 2, none⟩) hqlt).trans a2
  have g3 : w1.cell? ⟨q, 3, none⟩ = some (.int .i64 n.2.2.2) := (B1.out.cell (p := ⟨q, 3, none⟩) hqlt).trans a3
  have g0 := cell_of_one N1.out
  clear h hq hn hn' hok
  go_enter Try.func29, Try.ntmps29
  go_wp2_with fail
  rw [← hw1]
  clear hw1 a0 a1 a2 a3 hqn
  have BA : Hid (Below w1.heap.size w1 (w1.alloc (.cells #[.int .i64 0] 3)).drew) := Lib.hid ((Below.refl _ _).alloc (Nat.le_refl _) _).drew
  have k0 : (w1.alloc (.cells #[.int .i64 0] 3)).drew.cell? ⟨w.heap.size, 0, none⟩ = some (.pointer (some ⟨q, 0, none⟩)) := (BA.out.cell (p := ⟨_, 0, none⟩) (by rw [S1.out]; exact Nat.lt_succ_self _)).trans g0
  have k2 : (w1.alloc (.cells #[.int .i64 0] 3)).drew.cell? ⟨q, 2, none⟩ = some (.int .i64 n.2.2.1) := (BA.out.cell (p := ⟨_, 2, none⟩) (by rw [S1.out]; exact Nat.lt_succ_of_lt hqlt)).trans g2
  have k3 : (w1.alloc (.cells #[.int .i64 0] 3)).drew.cell? ⟨q, 3, none⟩ = some (.int .i64 n.2.2.2) := (BA.out.cell (p := ⟨_, 3, none⟩) (by rw [S1.out]; exact Nat.lt_succ_of_lt hqlt)).trans g3
  go_region
  rw [S1.out]
  clear k0 k2 k3 g0 g2 g3
  obtain ⟨w2, hw2⟩ : ∃ w2, w2 = (w1.alloc (.cells #[.int .i64 (n.2.2.1 - n.2.2.2)] 3)).drew := ⟨_, rfl⟩
  have L2 : Hid (LftSt w b m P L q n 1 w2) := Lib.hid (by
    have hb : Below w1.heap.size w1 w2 := by rw [hw2]; exact ((Below.refl _ _).alloc (Nat.le_refl _) _).drew
    have hbw := B1.out.trans (hb.mono B1.out.size)
    refine ⟨H.out.step hbw, hbw, below_block hb N1.out, ?_⟩
    rw [preN_one H.out.good, hw2, ← S1.out, show sumUp n.1 [] = 0 from rfl, Int.sub_zero]
    exact heap_alloc_new w1 _)
  rw [← hw2]
  clear hw2
  go_wp2_with fail
  refine (each_ok 36 #[.pointer (some ⟨w.heap.size, 0, none⟩), .pointer (some ⟨w.heap.size + 1, 0, none⟩)] enters_left1 b m P (fun j V => LftSt w b m P L q n j V) _ (fun j V hV => ⟨hV.st.cell, hV.st.map⟩) (fun j p V _ _ hp hV => left_round hV HQ.out HN.out hp) (fun j V _ _ hp hV => ?_) L2.out).mono ?_
  · have hno : atN j L = none := by
      cases e : atN j L with
      | none => rfl
      | some x =>
        obtain ⟨p', h1, _⟩ := H.out.inn j x e
        rw [hp] at h1
        cases h1
    refine ⟨hV.st, hV.below, hV.node, ?_⟩
    rw [preN_no H.out.good hno]
    exact hV.left
  rintro e w3 ⟨rfl, hL⟩
  have B3 := Lib.hid hL.below
  have c3 := cell_of_one hL.left
  rw [preN_nine H.out.good] at c3
  clear hL
  go_wp2
  go_ret
  exact ⟨rfl, B3.out⟩

/-- What asking for a container answers. -/
def ofE (L : List Nd) (id n : Int) : Int := if fitB id n = true then (if atN id L = none then 4 else 0) else 2
def ofP (P : Pt) (e id : Int) : Option Nat := if e = 0 then P id else none
theorem idB_bounds {id : Int} (h : idB id = true) : 1 ≤ id ∧ id ≤ 8 := by unfold idB at h; simpa using h
theorem ask_one (p : Option Addr) (there : Bool) (n id : Int) (g : Nat) (w : World) (hp : Calls Try.prog 30 #[.pointer p] w fun e w' => e = .returned (.bool there) ∧ w = w') (hg : w.heap[g]? = some (.cells #[.int .i64 id] 3 (0, 0))) {er : Int} (he : askE there n [id] = er) :
    Calls Try.prog 33 #[.pointer p, .int .i64 n, .slice (some ⟨g, 0, none⟩) 1 1] w fun e w' => e = .returned (.int .i64 er) ∧ w = w' := by
  rw [← he]
  refine ask_any p there n [id] g 1 w rfl hp (by decide) (fun i hi => ?_)
  obtain rfl : i = 0 := by omega
  exact cell_of_one hg
set_option maxHeartbeats 1000000 in
theorem of_err (p : Option Addr) (there : Bool) (id n er : Int) (w : World) (hp : ∀ W, Below w.heap.size w W → Calls Try.prog 30 #[.pointer p] W fun e w' => e = .returned (.bool there) ∧ W = w') (he : askE there n [id] = er) (hne : (er != 0) = true) :
    Calls Try.prog 28 #[.pointer p, .int .i64 id, .int .i64 n] w fun e w' => e = .returned (.tuple #[.pointer none, .int .i64 er]) ∧ Below w.heap.size w w' := by
  obtain ⟨w1, hw1⟩ : ∃ w1, w1 = w.alloc (.cells #[.int .i64 id] 3) := ⟨_, rfl⟩
  have B1 : Hid (Below w.heap.size w w1) := Lib.hid (by rw [hw1]; exact (Below.refl _ _).alloc (Nat.le_refl _) _)
  have N1 : Hid (w1.heap[w.heap.size]? = some (.cells #[.int .i64 id] 3 (0, 0))) := Lib.hid (by rw [hw1]; exact heap_alloc_new w _)
  have HE := Lib.hid he
  have HP := Lib.hid (hp _ B1.out)
  clear he hp
  go_enter Try.func28, Try.ntmps28
  go_wp2_with fail
  rw [← hw1]
  clear hw1
  refine (ask_one p there n id w.heap.size w1 HP.out N1.out HE.out).mono ?_
  rintro e w2 ⟨rfl, rfl⟩
  go_wp2
  go_ret2
  exact ⟨rfl, B1.out⟩
set_option maxHeartbeats 1000000 in
theorem of_at {w : World} {b m : Nat} {P : Pt} {L : List Nd} (h : BudAt w b m P L) (id n : Int) (he : askE true n [id] = 0) (hib : 1 ≤ id ∧ id ≤ 8) :
    (P id = none → Calls Try.prog 28 #[.pointer (some ⟨b, 0, none⟩), .int .i64 id, .int .i64 n] w fun e w' => e = .returned (.tuple #[.pointer none, .int .i64 4]) ∧ Below w.heap.size w w') ∧
    ∀ p, P id = some p → Calls Try.prog 28 #[.pointer (some ⟨b, 0, none⟩), .int .i64 id, .int .i64 n] w fun e w' => e = .returned (.tuple #[.pointer (some ⟨p, 0, none⟩), .int .i64 0]) ∧ Below w.heap.size w w' := by
  obtain ⟨w1, hw1⟩ : ∃ w1, w1 = w.alloc (.cells #[.int .i64 id] 3) := ⟨_, rfl⟩
  have B1 : Hid (Below w.heap.size w w1) := Lib.hid (by rw [hw1]; exact (Below.refl _ _).alloc (Nat.le_refl _) _)
  have N1 : Hid (w1.heap[w.heap.size]? = some (.cells #[.int .i64 id] 3 (0, 0))) := Lib.hid (by rw [hw1]; exact heap_alloc_new w _)
  have C1 := Lib.hid ((h.step B1.out).cell)
  have M1 := Lib.hid ((h.step B1.out).map)
  have HE := Lib.hid he
  clear h he
  refine ⟨fun hp => ?_, fun p hp => ?_⟩
  · have HP := Lib.hid hp
    clear hp
    go_enter Try.func28, Try.ntmps28
    go_wp2_with fail
    rw [← hw1]
    clear hw1
    refine (ask_one _ true n id w.heap.size w1 (isThere_ok b m w1 C1.out) N1.out HE.out).mono ?_
    rintro e w2 ⟨rfl, rfl⟩
    have c1 := C1.out
    go_wp2_with (refine wpList_ptr_ok _ rfl (.tmp 23) (.tmp 24) rfl m P rfl M1.out id rfl (by omega) none HP.out ?_)
    go_ret2
    exact ⟨rfl, B1.out⟩
  · have HP := Lib.hid hp
    clear hp
    go_enter Try.func28, Try.ntmps28
    go_wp2_with fail
    rw [← hw1]
    clear hw1
    refine (ask_one _ true n id w.heap.size w1 (isThere_ok b m w1 C1.out) N1.out HE.out).mono ?_
    rintro e w2 ⟨rfl, rfl⟩
    have c1 := C1.out
    go_wp2_with (refine wpList_ptr_ok _ rfl (.tmp 23) (.tmp 24) rfl m P rfl M1.out id rfl (by omega) (some p) HP.out ?_)
    go_ret2
    exact ⟨rfl, B1.out⟩
theorem of_ok {w : World} {b m : Nat} {P : Pt} {L : List Nd} (h : BudAt w b m P L) (id n : Int) {er : Int} {pt : Option Nat} (he : ofE L id n = er) (hp : ofP P er id = pt) :
    Calls Try.prog 28 #[.pointer (some ⟨b, 0, none⟩), .int .i64 id, .int .i64 n] w fun e w' => e = .returned (.tuple #[ptV pt, .int .i64 er]) ∧ Below w.heap.size w w' := by
  subst he hp
  have two : fitB id n = false → ofE L id n = 2 ∧ askE true n [id] = 2 := fun hf => by
    refine ⟨by unfold ofE; rw [if_neg (by rw [hf]; decide)], ?_⟩
    unfold askE
    rw [fitB_eq] at hf
    cases hn : numB n <;> cases hi : idB id <;> simp_all
  cases hf : fitB id n with
  | false =>
    obtain ⟨e1, e2⟩ := two hf
    rw [e1]
    exact of_err _ true id n 2 w (fun W hb => isThere_ok b m W (h.step hb).cell) e2 rfl
  | true =>
    have hf' := hf
    rw [fitB_eq, Bool.and_eq_true] at hf'
    have e1 : askE true n [id] = 0 := by unfold askE; rw [if_pos rfl, hf'.2, if_pos rfl]; simp [hf'.1]
    obtain ⟨h1, h2⟩ := of_at h id n e1 (idB_bounds hf'.1)
    cases ha : atN id L with
    | none =>
      have e2 : ofE L id n = 4 := by unfold ofE; rw [if_pos hf, if_pos ha]
      rw [e2]
      exact h1 (h.out id ha)
    | some x =>
      obtain ⟨p, hp, _⟩ := h.inn id x ha
      have e2 : ofE L id n = 0 := by unfold ofE; rw [if_pos hf, if_neg (by rw [ha]; simp)]
      rw [e2, show ofP P 0 id = some p by unfold ofP; rw [if_pos rfl]; exact hp]
      exact h2 p hp
theorem NoBud.step {w w' : World} {p : Option Addr} (h : NoBud w p) (hb : Below w.heap.size w w') : NoBud w' p := by
  rcases h with h | ⟨b, h, k⟩
  · exact Or.inl h
  · exact Or.inr ⟨b, h, (hb.cell (p := ⟨b, 0, none⟩) (block_lt_of_cell k)).trans k⟩
/-- Without a budget. -/
theorem of_no (p : Option Addr) (id n : Int) (w : World) (h : NoBud w p) :
    Calls Try.prog 28 #[.pointer p, .int .i64 id, .int .i64 n] w fun e w' => e = .returned (.tuple #[.pointer none, .int .i64 1]) ∧ Below w.heap.size w w' :=
  of_err p false id n 1 w (fun W hb => isThere_no p W (h.step hb)) rfl rfl
theorem ofE_zero {L : List Nd} {id : Int} (h : fitB id 0 = true) {n : Nd} (ha : atN id L = some n) : ofE L id 0 = 0 := by unfold ofE; rw [if_pos h, if_neg (by rw [ha]; simp)]
theorem Good.fits {L : List Nd} (h : Good L) {id : Int} {n : Nd} (ha : atN id L = some n) : fitB id 0 = true := by
  have := h.ok n (atN_some ha).1
  have e := (atN_some ha).2
  rw [fitB_iff]
  omega
theorem ofE_none {L : List Nd} {id n : Int} (ha : atN id L = none) : ofE L id n ≠ 0 := by
  unfold ofE
  rw [if_pos ha]
  split <;> decide
set_option maxHeartbeats 1000000 in
/-- Left. -/
theorem left_is {w : World} {b m : Nat} {P : Pt} {L : List Nd} (h : BudAt w b m P L) (id : Int) {d : Int} (hd : leftL L id = d) :
    Calls Try.prog 13 #[.pointer (some ⟨b, 0, none⟩), .int .i64 id] w fun e w' => e = .returned (.int .i64 d) ∧ Below w.heap.size w w' := by
  have H := Lib.hid h
  clear h
  cases ha : atN id L with
  | none =>
    have hd0 : d = 0 := by rw [← hd]; unfold leftL; rw [ha]; rfl
    subst hd0
    have he := ofE_none (n := 0) ha
    obtain ⟨er, her⟩ : ∃ er, ofE L id 0 = er := ⟨_, rfl⟩
    rw [her] at he
    have OF := Lib.hid (of_ok H.out id 0 her (show ofP P er id = none by unfold ofP; rw [if_neg he]))
    have hne : (er != 0) = true := by simpa using he
    clear hd ha her he
    go_enter Try.func13, Try.ntmps13
    go_wp2_with fail
    refine OF.out.mono ?_
    rintro e w1 ⟨rfl, hb⟩
    have B1 := Lib.hid hb
    clear hb
    go_wp2
    go_ret
    exact ⟨rfl, B1.out⟩
  | some n =>
    obtain ⟨q, hq, _⟩ := H.out.inn id n ha
    have hid := (atN_some ha).2
    have OF := Lib.hid (of_ok H.out id 0 (ofE_zero (H.out.good.fits ha) ha) (show ofP P 0 id = some q by unfold ofP; rw [if_pos rfl]; exact hq))
    have hdn : d = leftN L n := by rw [← hd]; unfold leftL; rw [ha]; rfl
    have HD := Lib.hid hdn
    have HQ : Hid (P n.1 = some q) := Lib.hid (by rw [hid]; exact hq)
    have HN : Hid (atN n.1 L = some n) := Lib.hid (by rw [hid]; exact ha)
    clear hd ha hq hdn hid
    go_enter Try.func13, Try.ntmps13
    go_wp2_with fail
    refine OF.out.mono ?_
    rintro e w1 ⟨rfl, hb⟩
    have B1 := Lib.hid hb
    have H1 := Lib.hid (H.out.step hb)
    clear hb
    unfold ptV
    go_wp2_with fail
    refine (left_ok H1.out HQ.out HN.out).mono ?_
    rintro e w2 ⟨rfl, hb⟩
    have B2 := Lib.hid (B1.out.trans (hb.mono B1.out.size))
    clear hb
    go_wp2
    go_ret
    exact ⟨by rw [HD.out]; rfl, B2.out⟩
theorem left_none (p : Option Addr) (id : Int) (w : World) (h : NoBud w p) :
    Calls Try.prog 13 #[.pointer p, .int .i64 id] w fun e w' => e = .returned (.int .i64 0) ∧ Below w.heap.size w w' := by
  go_enter Try.func13, Try.ntmps13
  go_wp2_with fail
  refine (of_no p id 0 w h).mono ?_
  rintro e w1 ⟨rfl, hb⟩
  have B1 := Lib.hid hb
  clear hb
  go_wp2
  go_ret
  exact ⟨rfl, B1.out⟩
end Go.Proofs.Ytedeifejokcleaa
