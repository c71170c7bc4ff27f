/- The contracts of package palloc's Share, Free, Alloc. Condition: the pool lies as New laid it, or there is none, or nobody made it; for Alloc the library's table reads as its initialiser lays it. -/
import Derived.Test.YtiohnhgoddfebaaDoorA5
namespace Go.Proofs.YtiohnhgoddfebaaDoor
open Go.RowKit
set_option maxRecDepth 100000

/-- A pool between two of its own steps: its sets are F's. -/
structure PoolG (w : World) (X : PIx) (L : List Int) (R : Nat → Nat) (F : Nat → List Nat) : Prop where
  mem : MemSt w X.mp X.fb X.n L
  box : w.heap[X.pb]? = some (.cells #[.pointer (some ⟨X.mp, 0, none⟩), X.v, .map (some X.mb)] 52 (0, 0))
  parts : w.ownsRow X.base 91 3 X.v X.T.length (stockV X.T)
  sets : ∀ i, i < X.T.length → SetAt w (X.T.getD i default).1 (F i)
  refs : RefsAt w X.mb R
  nodup : ∀ i j, i < X.T.length → j < X.T.length → (X.T.getD i default).1 = (X.T.getD j default).1 → i = j
theorem PoolAt.toG {w : World} {X : PIx} {L : List Int} {R : Nat → Nat} (h : PoolAt w X L R) : PoolG w X L R (fun i => freeL (X.T.getD i default).2 R) := ⟨h.mem, h.box, h.parts, h.sets, h.refs, h.nodup⟩
theorem PoolG.toAt {w : World} {X : PIx} {L : List Int} {R : Nat → Nat} {F : Nat → List Nat} (h : PoolG w X L R F) (hf : FitP X.n X.P R) (hF : ∀ i, i < X.T.length → F i = freeL (X.T.getD i default).2 R) : PoolAt w X L R :=
  ⟨h.mem, h.box, h.parts, fun i hi => by rw [← hF i hi]; exact h.sets i hi, h.refs, hf, h.nodup⟩
theorem mem_T {T : List (Nat × (Nat × Nat))} {i : Nat} (h : i < T.length) : (T.getD i default).1 ∈ T.map (·.1) :=
  List.mem_map.2 ⟨T.getD i default, by rw [List.getD_eq_getElem?_getD, List.getElem?_eq_getElem h]; exact List.getElem_mem h, rfl⟩
theorem ownsRow_grown {w w' : World} {base k n r : Nat} {e : TypeId} {v : Value} {xs : List Value} {o : Obj} (h : w.ownsRow base e k v n xs) (hg : w.grownBy w' (some r)) (ho : w.heap[r]? = some o) (hk : kindOf o ≠ some e) : w'.ownsRow base e k v n xs := by
  refine h.kept hg (Or.inr fun e2 => ?_)
  obtain ⟨cs, hcs⟩ := own_block h e2
  rw [hcs] at ho
  exact hk (by rw [← Option.some.inj ho]; rfl)
theorem box_grown {w w' : World} {k r : Nat} {o o' : Obj} (h : w.heap[k]? = some o) (hg : w.grownBy w' (some r)) (ho : w.heap[r]? = some o') (hk : kindOf o ≠ kindOf o') : w'.heap[k]? = some o :=
  (hg.block k (lt_of_block h) (fun e => kind_ne h ho hk (Option.some.inj e))).trans h
/-- The map's turn. -/
theorem PoolG.map {w w' : World} {X : PIx} {L : List Int} {R R' : Nat → Nat} {F : Nat → List Nat} (h : PoolG w X L R F) (hg : w.grownBy w' (some X.mb)) (hr : RefsAt w' X.mb R') : PoolG w' X L R' F := by
  obtain ⟨es, ck, ho⟩ := h.refs.isMap
  exact ⟨⟨box_grown h.mem.box hg ho (by simp [kindOf]), box_grown h.mem.row hg ho (by simp [kindOf]), h.mem.len, h.mem.ne, h.mem.pos, h.mem.top⟩,
    box_grown h.box hg ho (by simp [kindOf]), ownsRow_grown h.parts hg ho (by simp [kindOf]), fun i hi => ⟨(h.sets i hi).good, box_grown (h.sets i hi).box hg ho (by simp [kindOf])⟩, hr, h.nodup⟩
/-- A set's turn. -/
theorem PoolG.set {w w' : World} {X : PIx} {L : List Int} {R : Nat → Nat} {F : Nat → List Nat} (h : PoolG w X L R F) (i : Nat) (hi : i < X.T.length) (K : List Nat) (ht : Turn w w' (X.T.getD i default).1 K) : PoolG w' X L R (fun j => if j = i then K else F j) := by
  have ho := (h.sets i hi).box
  have hg := ht.grown
  refine ⟨⟨box_grown h.mem.box hg ho (by simp [kindOf]), box_grown h.mem.row hg ho (by simp [kindOf]), h.mem.len, h.mem.ne, h.mem.pos, h.mem.top⟩,
    box_grown h.box hg ho (by simp [kindOf]), ownsRow_grown h.parts hg ho (by simp [kindOf]), fun j hj => ?_, ?_, h.nodup⟩
  · by_cases e : j = i
    · subst e; rw [if_pos rfl]; exact ht.st
    · rw [if_neg e]
      exact (h.sets j hj).kept hg (fun e2 => e (h.nodup j i hj hi (Option.some.inj e2)))
  · obtain ⟨es, ck, hm⟩ := h.refs.isMap
    refine h.refs.same (hg.block _ h.refs.lt (fun e => kind_ne hm ho (by simp [kindOf]) (Option.some.inj e)))
/-- The memory's turn. -/
theorem PoolG.mem_ {w w' : World} {X : PIx} {L L' : List Int} {R : Nat → Nat} {F : Nat → List Nat} (h : PoolG w X L R F) (hp : Puts w w' X.mp X.fb X.n L') : PoolG w' X L' R F := by
  have ho := h.mem.row
  have hg := hp.grown
  refine ⟨hp.st, box_grown h.box hg ho (by simp [kindOf]), ownsRow_grown h.parts hg ho (by simp [kindOf]), fun j hj => ⟨(h.sets j hj).good, box_grown (h.sets j hj).box hg ho (by simp [kindOf])⟩, ?_, h.nodup⟩
  obtain ⟨es, ck, hm⟩ := h.refs.isMap
  exact h.refs.same (hg.block _ h.refs.lt (fun e => kind_ne hm ho (by simp [kindOf]) (Option.some.inj e)))
theorem PoolG.below {w w' : World} {X : PIx} {L : List Int} {R : Nat → Nat} {F : Nat → List Nat} (h : PoolG w X L R F) (hb : Below w.heap.size w w') : PoolG w' X L R F := by
  obtain ⟨es, ck, hm⟩ := h.refs.isMap
  exact ⟨h.mem.below hb, below_block hb h.box, ownsRow_only (B := fun _ => False) h.parts (Only.below hb) (fun _ _ => id), fun i hi => (h.sets i hi).below hb, h.refs.same (hb.block _ h.refs.lt), h.nodup⟩
theorem PoolG.c0 {w : World} {X : PIx} {L : List Int} {R : Nat → Nat} {F : Nat → List Nat} (h : PoolG w X L R F) : w.cell? ⟨X.pb, 0, none⟩ = some (.pointer (some ⟨X.mp, 0, none⟩)) := by rw [cell_of_row w _ _ _ _ _ h.box]; rfl
theorem PoolG.c1 {w : World} {X : PIx} {L : List Int} {R : Nat → Nat} {F : Nat → List Nat} (h : PoolG w X L R F) : w.cell? ⟨X.pb, 1, none⟩ = some X.v := by rw [cell_of_row w _ _ _ _ _ h.box]; rfl
theorem PoolG.c2 {w : World} {X : PIx} {L : List Int} {R : Nat → Nat} {F : Nat → List Nat} (h : PoolG w X L R F) : w.cell? ⟨X.pb, 2, none⟩ = some (.map (some X.mb)) := by rw [cell_of_row w _ _ _ _ _ h.box]; rfl

theorem share_no (p : Option Addr) (x : Int) (w : World) (h : NoPool w p) : Calls Tryd.prog 20 #[.pointer p, .int .i64 x] w fun e w' => e = .returned (.int .i64 1) ∧ w = w' := by
  have H := Lib.hid h
  clear h
  go_enter Tryd.func20, Tryd.ntmps20
  go_wp2_with (go_at_call 44; refine (held_no p x _ H.out).mono ?_; rintro e w' ⟨rfl, rfl⟩)
  go_ret
  exact ⟨rfl, rfl⟩
theorem free_no (p : Option Addr) (x : Int) (w : World) (h : NoPool w p) : Calls Tryd.prog 21 #[.pointer p, .int .i64 x] w fun e w' => e = .returned (.int .i64 1) ∧ w = w' := by
  have H := Lib.hid h
  clear h
  go_enter Tryd.func21, Tryd.ntmps21
  go_wp2_with (go_at_call 44; refine (held_no p x _ H.out).mono ?_; rintro e w' ⟨rfl, rfl⟩)
  go_ret
  exact ⟨rfl, rfl⟩
theorem alloc_no (p : Option Addr) (k : Int) (w : World) (h : NoPool w p) : Calls Tryd.prog 18 #[.pointer p, .int .i64 k] w fun e w' => e = .returned (.tuple #[.int .i64 0, .int .i64 1]) ∧ Below w.heap.size w w' := by
  have H := Lib.hid h
  clear h
  go_enter Tryd.func18, Tryd.ntmps18
  go_wp2_with (go_at_call 40; refine (of_no p k _ H.out).mono ?_; rintro e w' ⟨rfl, hb⟩; have B := Lib.hid (hb.alloc hb.size (.cells #[.pointer none, .int .i64 0, .int .i64 0] 91)); clear hb)
  go_ret2
  exact ⟨rfl, B.out⟩

/-- Who does not hold: nothing happens. -/
theorem held_not {n : Nat} {P : List (Nat × Nat)} {R : Nat → Nat} (h : FitP n P R) (x : Int) : heldE P R x = 0 ∨ heldE P R x = 2 ∨ heldE P R x = 4 := by
  rcases frame_ways h x with ⟨_, he, _⟩ | ⟨_, _, _, _, _, _, _, _, _, he⟩ | ⟨_, _, _, _, _, _, _, _, _, _, he⟩
  · exact Or.inr (Or.inl he)
  · exact Or.inr (Or.inr he)
  · exact Or.inl he
theorem held_frame {n : Nat} {P : List (Nat × Nat)} {R : Nat → Nat} (h : FitP n P R) (x : Int) (h0 : heldE P R x = 0) : ∃ y i : Nat, x = y ∧ y < n ∧ i < P.length ∧ ownA P x = ((i : Int), 0) ∧ inP (P.getD i (0, 0)) (y : Int) = true ∧ R y ≠ 0 ∧ R y ≤ 64 ∧ refI R x = (R y : Int) := by
  rcases frame_ways h x with ⟨_, he, _⟩ | ⟨_, _, _, _, _, _, _, _, _, he⟩ | ⟨y, i, h1, h2, h3, h4, h5, h6, h7, h8, _⟩
  · rw [he] at h0; cases h0
  · rw [he] at h0; cases h0
  · exact ⟨y, i, h1, h2, h3, h4, h5, h6, h7, h8⟩
set_option maxHeartbeats 1000000 in
theorem share_any (X : PIx) (L : List Int) (R : Nat → Nat) (x : Int) (w : World) (h : PoolAt w X L R) (hx : I64 x) : Calls Tryd.prog 20 #[.pointer (some ⟨X.pb, 0, none⟩), .int .i64 x] w fun e w' => e = .returned (.int .i64 (shareE X.P R x)) ∧ Moves w w' X L (shareR X.P R x) := by
  have H := Lib.hid h
  rcases held_not h.fit x with he | he
  · obtain ⟨y, i, rfl, hy, hi, ho, hin, hr, hr2, hrI⟩ := held_frame h.fit x he
    have HE := Lib.hid he
    have HA := Lib.hid (show (if (0 : Int) = 0 then (ownA X.P (y : Int)).1 else 0) = (i : Int) by rw [ho]; rfl)
    have hy2 : y < 1024 := by have := h.fit.top; omega
    have HR := Lib.hid hrI
    by_cases h64 : R y = 64
    · have E : Hid (shareE X.P R (y : Int) = 3 ∧ shareR X.P R (y : Int) = R) := Lib.hid (by
        have : shareE X.P R (y : Int) = 3 := by simp [shareE, he, hrI, h64]
        exact ⟨this, by simp [shareR, this]⟩)
      rw [h64] at HR
      clear h he hr hr2 hrI ho hin hi h64
      go_enter Tryd.func20, Tryd.ntmps20
      go_wp2_with (first
        | (go_at_call 44; refine (held_is HE.out HA.out H.out hx).mono ?_; rintro e w' ⟨rfl, hb⟩; have B := Lib.hid hb; have H1 := Lib.hid (H.out.below hb); have c2 := (H.out.below hb).c2; clear hb)
        | (at_lookup; refine wpList_refs_look _ rfl _ _ rfl X.mb R rfl H1.out.refs _ 64 rfl hx HR.out ?_))
      go_ret
      exact ⟨by rw [E.out.1]; rfl, by rw [E.out.2]; exact Moves.stay H.out B.out⟩
    · have E : Hid (shareE X.P R (y : Int) = 0 ∧ shareR X.P R (y : Int) = upd R y (R y + 1)) := Lib.hid (by
        have : shareE X.P R (y : Int) = 0 := by simp [shareE, he, hrI]; omega
        exact ⟨this, by simp [shareR, this]⟩)
      have FF : Hid (FitP X.n X.P (upd R y (R y + 1)) ∧ ∀ i, i < X.T.length → freeL (X.T.getD i default).2 R = freeL (X.T.getD i default).2 (upd R y (R y + 1))) := Lib.hid
        ⟨h.fit.upd i y _ hi hin (by omega), fun j _ => (freeL_held _ _ _ _ hr (by omega)).symm⟩
      rw [E.out.1, E.out.2]
      clear E
      generalize R y = q at *
      have hne : ((q : Int) == 64) = false := by simp; omega
      clear h he hr hrI ho hin hi
      go_enter Tryd.func20, Tryd.ntmps20
      go_wp2_with (first
        | (go_at_call 44; refine (held_is HE.out HA.out H.out hx).mono ?_; rintro e w1 ⟨rfl, hb⟩; have B := Lib.hid hb; have H1 := Lib.hid (H.out.below hb); have c2 := (H.out.below hb).c2; clear hb)
        | (at_lookup; refine wpList_refs_look _ rfl _ _ rfl X.mb R rfl H1.out.refs _ (q : Int) rfl hx HR.out ?_)
        | (at_mapUpdate; refine wpList_refs_put _ rfl _ _ _ rfl X.mb R rfl H1.out.refs y (q + 1) rfl hy2 (by first | rfl | simp) (by omega) ?_; intro w2 hr2 hg; have G := Lib.hid (PoolG.map H1.out.toG hg hr2); have O := Lib.hid ((Only.below B.out).trans (Only.grown (B := X.blocks) hg (Or.inr (Or.inl rfl)))); clear hr2 hg))
      go_ret
      exact ⟨rfl, G.out.toAt FF.out.1 FF.out.2, O.out⟩
  · have E : Hid (shareE X.P R x = heldE X.P R x ∧ shareR X.P R x = R) := Lib.hid (by
      have := heldE_no h.fit (x := x) (by rcases he with e | e <;> rw [e] <;> decide)
      exact ⟨this.1, this.2.1⟩)
    rw [E.out.1, E.out.2]
    have HA : Hid ((if heldE X.P R x = 0 then (ownA X.P x).1 else 0) = 0) := Lib.hid (by rcases he with e | e <;> rw [e] <;> rfl)
    obtain ⟨q, hq⟩ : ∃ q, heldE X.P R x = q := ⟨_, rfl⟩
    rw [hq] at he HA ⊢
    have HE := Lib.hid hq
    clear h E hq
    rcases he with rfl | rfl
    all_goals
      go_enter Tryd.func20, Tryd.ntmps20
      go_wp2_with (go_at_call 44; refine (held_is HE.out HA.out H.out hx).mono ?_; rintro e w' ⟨rfl, hb⟩; have B := Lib.hid hb; clear hb)
      go_ret
      exact ⟨rfl, Moves.stay H.out B.out⟩
theorem freeR_no {n : Nat} {P : List (Nat × Nat)} {R : Nat → Nat} {x : Int} (h : FitP n P R) (he : heldE P R x = 2 ∨ heldE P R x = 4) : freeR P R x = R := (heldE_no h (by rcases he with e | e <;> rw [e] <;> decide)).2.2
set_option maxHeartbeats 1000000 in
theorem free_any (X : PIx) (L : List Int) (R : Nat → Nat) (x : Int) (w : World) (h : PoolAt w X L R) (hx : I64 x) : Calls Tryd.prog 21 #[.pointer (some ⟨X.pb, 0, none⟩), .int .i64 x] w fun e w' => e = .returned (.int .i64 (heldE X.P R x)) ∧ Moves w w' X L (freeR X.P R x) := by
  have H := Lib.hid h
  rcases held_not h.fit x with he | he
  · obtain ⟨y, i, rfl, hy, hi, ho, hin, hr, hr2, hrI⟩ := held_frame h.fit x he
    have HE := Lib.hid he
    have HA := Lib.hid (show (if (0 : Int) = 0 then (ownA X.P (y : Int)).1 else 0) = (i : Int) by rw [ho]; rfl)
    have hy2 : y < 1024 := by have := h.fit.top; omega
    have HR := Lib.hid hrI
    have E : freeR X.P R (y : Int) = upd R y (R y - 1) := by simp [freeR, he]
    rw [he, E]
    by_cases h1 : R y = 1
    · have hiT : i < X.T.length := by rw [← X.P_length]; exact hi
      have hrow := P_get X.T i hiT
      rw [show (X.T.map (·.2)) = X.P from rfl] at hrow
      obtain ⟨t, ht⟩ : ∃ t, X.T.getD i default = t := ⟨_, rfl⟩
      obtain ⟨s, f, m⟩ := t
      have hinT : f ≤ y ∧ y < f + m := by
        rw [hrow, ht] at hin
        have := (inP_iff _ _).1 hin
        simp only at this
        omega
      obtain ⟨hn, hgive⟩ := freeL_give (f, m) R y hinT (by omega)
      have FF : Hid (FitP X.n X.P (upd R y 0) ∧ ∀ j, j < X.T.length → (if j = i then ins (freeL (f, m) R) y else freeL (X.T.getD j default).2 R) = freeL (X.T.getD j default).2 (upd R y 0)) := Lib.hid
        ⟨h.fit.upd i y _ hi hin (by omega), fun j hj => by
          by_cases e : j = i
          · subst e; rw [if_pos rfl, ht]; exact hgive.symm
          · rw [if_neg e, ← P_get X.T j hj]; exact (h.fit.free_far i y 0 hi hin j (by rw [X.P_length]; exact hj) e).symm⟩
      have PE : Hid (putE (freeL (f, m) R) (y : Int) = 0 ∧ putL (freeL (f, m) R) (y : Int) = ins (freeL (f, m) R) y) := Lib.hid (by
        have h5 : numB (y : Int) = true := (numB_iff _).2 (by omega)
        exact ⟨by simp [putE, h5, hn], by simp [putL, h5, hn]⟩)
      have NB : Hid (i < X.T.length) := Lib.hid hiT
      have TT := Lib.hid ht
      have hmany := h.many
      rw [h1]
      rw [h1] at HR
      have hi8 : i < X.T.length := hiT
      clear h he E hr hr2 hrI ho hin hi h1 hrow hinT hn hgive hiT ht
      go_enter Tryd.func21, Tryd.ntmps21
      go_wp2_with (first
        | (go_at_call 44; refine (held_is HE.out HA.out H.out hx).mono ?_; rintro e w1 ⟨rfl, hb⟩; have B := Lib.hid hb; have H1 := Lib.hid (H.out.below hb); have c2 := (H.out.below hb).c2; clear hb)
        | (at_lookup; refine wpList_refs_look _ rfl _ _ rfl X.mb R rfl H1.out.refs _ 1 rfl hx HR.out ?_)
        | (at_delete; refine wpList_refs_drop _ rfl _ _ rfl X.mb R rfl H1.out.refs y rfl hy2 ?_; intro w2 hr2 hg; have G := Lib.hid (PoolG.map H1.out.toG hg hr2); have O := Lib.hid ((Only.below B.out).trans (Only.grown (B := X.blocks) hg (Or.inr (Or.inl rfl)))); clear hr2 hg c2
           obtain ⟨g, c, s', f', m', hv, _, hrow', e0, _, _⟩ := stock_row G.out.parts i NB.out
           obtain ⟨rfl, rfl, rfl⟩ : s' = s ∧ f' = f ∧ m' = m := by rw [TT.out] at hrow'; cases hrow'; exact ⟨rfl, rfl, rfl⟩
           have c1 := G.out.c1
           have S2 := G.out.sets i NB.out
           simp only [TT.out] at S2
           have S2 := Lib.hid S2
           rw [hv] at c1
           clear hv hrow')
        | (go_at_call 45; refine (put_any _ _ _ _ S2.out).mono ?_; rw [PE.out.1, PE.out.2]; rintro e w3 ⟨rfl, ht⟩; have T3 := Lib.hid (TT.out ▸ ht : Turn w2 w3 (X.T.getD i default).1 (ins (freeL (f', m') R) y)); clear ht))
      go_ret
      exact ⟨rfl, (G.out.set i NB.out _ T3.out).toAt FF.out.1 FF.out.2, O.out.trans (Only.grown T3.out.grown (Or.inr (Or.inr (mem_T NB.out))))⟩
    · have FF : Hid (FitP X.n X.P (upd R y (R y - 1)) ∧ ∀ i, i < X.T.length → freeL (X.T.getD i default).2 R = freeL (X.T.getD i default).2 (upd R y (R y - 1))) := Lib.hid
        ⟨h.fit.upd i y _ hi hin (by omega), fun j _ => (freeL_held _ _ _ _ hr (by omega)).symm⟩
      obtain ⟨q, hq⟩ : ∃ q, R y = q + 2 := ⟨R y - 2, by omega⟩
      rw [hq] at HR FF ⊢
      rw [show q + 2 - 1 = q + 1 by omega] at FF ⊢
      have hq2 : q ≤ 62 := by omega
      rw [show ((q + 2 : Nat) : Int) = (q : Int) + 2 by omega] at HR
      have hgt : decide ((1 : Int) < (q : Int) + 2) = true := decide_eq_true (by omega)
      clear h he E hr hr2 hrI ho hin hi h1 hq
      go_enter Tryd.func21, Tryd.ntmps21
      go_wp2_with (first
        | (go_at_call 44; refine (held_is HE.out HA.out H.out hx).mono ?_; rintro e w1 ⟨rfl, hb⟩; have B := Lib.hid hb; have H1 := Lib.hid (H.out.below hb); have c2 := (H.out.below hb).c2; clear hb)
        | (at_lookup; refine wpList_refs_look _ rfl _ _ rfl X.mb R rfl H1.out.refs _ ((q : Int) + 2) rfl hx HR.out ?_)
        | (at_mapUpdate; refine wpList_refs_put _ rfl _ _ _ rfl X.mb R rfl H1.out.refs y (q + 1) rfl hy2 (by simp [go_sem]; omega) (by omega) ?_; intro w2 hr2 hg; have G := Lib.hid (PoolG.map H1.out.toG hg hr2); have O := Lib.hid ((Only.below B.out).trans (Only.grown (B := X.blocks) hg (Or.inr (Or.inl rfl)))); clear hr2 hg))
      go_ret
      exact ⟨rfl, G.out.toAt FF.out.1 FF.out.2, O.out⟩
  · have E : Hid (freeR X.P R x = R) := Lib.hid (freeR_no h.fit he)
    rw [E.out]
    have HA : Hid ((if heldE X.P R x = 0 then (ownA X.P x).1 else 0) = 0) := Lib.hid (by rcases he with e | e <;> rw [e] <;> rfl)
    obtain ⟨q, hq⟩ : ∃ q, heldE X.P R x = q := ⟨_, rfl⟩
    rw [hq] at he HA ⊢
    have HE := Lib.hid hq
    clear h E hq
    rcases he with rfl | rfl
    all_goals
      go_enter Tryd.func21, Tryd.ntmps21
      go_wp2_with (go_at_call 44; refine (held_is HE.out HA.out H.out hx).mono ?_; rintro e w' ⟨rfl, hb⟩; have B := Lib.hid hb; clear hb)
      go_ret
      exact ⟨rfl, Moves.stay H.out B.out⟩
end Go.Proofs.YtiohnhgoddfebaaDoor
