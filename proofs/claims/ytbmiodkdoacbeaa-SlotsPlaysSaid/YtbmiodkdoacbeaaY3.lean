/- The contracts of package slots' isThere, find, put, New, Get, Add, and of what makes its iterators. Condition: the table lies as New laid it, or there is none. -/
import Derived.Test.YtbmiodkdoacbeaaY2
import Derived.Deep.RegionHeld3
import Derived.Laws.OwnMore
namespace Go.Proofs.Ytbmiodkdoacbeaa
open Go.RowKit Go.Maps
set_option maxRecDepth 100000

/-- There is no table: none, or one that nobody made. -/
def NoTab (w : World) (p : Option Addr) : Prop := p = none ∨ ∃ b, p = some ⟨b, 0, none⟩ ∧ w.cell? ⟨b, 1, none⟩ = some (.map none)
theorem isThereY_no (p : Option Addr) (w : World) (h : NoTab w p) : Calls Try.prog 26 #[.pointer p] w fun e w' => e = .returned (.bool false) ∧ w = w' := by
  have hm := run_neq_map_nil (P := Try.prog) w 47 3 72 none Try.underlying47
  rcases h with rfl | ⟨b, rfl, hc⟩
  all_goals
    go_enter Try.func26, Try.ntmps26
    go_wp2
    go_ret
    exact ⟨rfl, rfl⟩
theorem isThereY_ok (b m : Nat) (w : World) (hc : w.cell? ⟨b, 1, none⟩ = some (.map (some m))) : Calls Try.prog 26 #[.pointer (some ⟨b, 0, none⟩)] w fun e w' => e = .returned (.bool true) ∧ w = w' := by
  have hm := run_neq_map_nil (P := Try.prog) w 47 3 72 (some m) Try.underlying47
  go_enter Try.func26, Try.ntmps26
  go_wp2
  go_ret
  exact ⟨rfl, rfl⟩
theorem findY_no (p : Option Addr) (pid : Int) (w : World) (h : NoTab w p) : Calls Try.prog 28 #[.pointer p, .int .i64 pid] w fun e w' => e = .returned (.tuple #[.pointer none, .int .i64 1]) ∧ w = w' := by
  go_enter Try.func28, Try.ntmps28
  go_wp2_with fail
  refine (isThereY_no p w h).mono ?_
  rintro e w' ⟨rfl, rfl⟩
  go_wp2
  go_ret2
  exact ⟨rfl, rfl⟩
theorem findY_none {b m : Nat} {n : Int} {P : Pt} {L : List Nd} {w : World} (h : TabAt w b m n P L) {pid : Int} (hi : I64 pid) (hp : P pid = none) : Calls Try.prog 28 #[.pointer (some ⟨b, 0, none⟩), .int .i64 pid] w fun e w' => e = .returned (.tuple #[.pointer none, .int .i64 4]) ∧ w = w' := by
  have c1 := h.c1
  have hl := run_ok0 h.map hi hp
  have H := Lib.hid h
  clear h hp hi
  go_enter Try.func28, Try.ntmps28
  go_wp2_with fail
  refine (isThereY_ok b m w H.out.c1).mono ?_
  rintro e w' ⟨rfl, rfl⟩
  go_wp2
  go_ret2
  exact ⟨rfl, rfl⟩
theorem findY_some {b m : Nat} {n : Int} {P : Pt} {L : List Nd} {w : World} (h : TabAt w b m n P L) {pid : Int} (hi : I64 pid) {p : Nat} (hp : P pid = some p) : Calls Try.prog 28 #[.pointer (some ⟨b, 0, none⟩), .int .i64 pid] w fun e w' => e = .returned (.tuple #[.pointer (some ⟨p, 0, none⟩), .int .i64 0]) ∧ w = w' := by
  have c1 := h.c1
  have hl := run_ok1 h.map hi hp
  have H := Lib.hid h
  clear h hp hi
  go_enter Try.func28, Try.ntmps28
  go_wp2_with fail
  refine (isThereY_ok b m w H.out.c1).mono ?_
  rintro e w' ⟨rfl, rfl⟩
  go_wp2
  go_ret2
  exact ⟨rfl, rfl⟩

set_option maxHeartbeats 1000000 in
theorem putY_raw (b m k : Nat) (P : Pt) (pid parent : Int) (w : World) (hc : w.cell? ⟨b, 1, none⟩ = some (.map (some m))) (hp : ProcsAt w m P k) (hid : 1 ≤ pid ∧ pid ≤ 8) (hn : P pid = none) :
    Calls Try.prog 22 #[.pointer (some ⟨b, 0, none⟩), .int .i64 pid, .int .i64 parent] w fun e w' => e = .returned (.tuple #[]) ∧ ProcsAt w' m (updP P pid (some w.heap.size)) (k + 1) ∧ w'.heap[w.heap.size]? = some (prO (pid, parent, 1, 0)) ∧ w.grownBy w' (some m) := by
  have hml := hp.lt
  obtain ⟨w1, hw1⟩ : ∃ w1, w1 = w.alloc (.cells #[.int .i64 pid, .int .i64 parent, .int .i64 1, .int .u32 0] 42) := ⟨_, rfl⟩
  have B1 : Hid (Below w.heap.size w w1) := Lib.hid (by rw [hw1]; exact (Below.refl _ _).alloc (Nat.le_refl _) _)
  have N1 : Hid (w1.heap[w.heap.size]? = some (prO (pid, parent, 1, 0))) := Lib.hid (by rw [hw1]; exact heap_alloc_new w _)
  have P1 : Hid (ProcsAt w1 m P k) := Lib.hid (hp.same (B1.out.block m hml))
  rw [hw1] at P1
  have E1 := Lib.hid hw1
  have HN := Lib.hid hn
  clear hp hw1 hn
  go_enter Try.func22, Try.ntmps22
  go_wp2_with (refine wpList_proc_put _ rfl (.tmp 9) (.tmp 10) (.tmp 14) rfl m k P rfl P1.out pid rfl hid HN.out w.heap.size rfl ?_; intro w2 hp2 hg2; have P2 := Lib.hid hp2; have G2 := Lib.hid hg2; clear hp2 hg2)
  go_end0
  have hg : w1.grownBy w2 (some m) := by rw [E1.out]; exact G2.out
  exact ⟨rfl, P2.out, (hg.block _ (lt_of_block N1.out) (fun e => by have := Option.some.inj e; omega)).trans N1.out, grownBy_trans (grownBy_of_below B1.out _) hg⟩

/-- What a call leaves. -/
structure ToY (w w' : World) (b m : Nat) (n : Int) (P : Pt) (L' : List Nd) : Prop where
  ex : ∃ P', TabAt w' b m n P' L' ∧ ∀ id p, P' id = some p → P id = some p ∨ w.heap.size ≤ p
  only : Only w w' (tB m P)
theorem ToY.stay {w w' : World} {b m : Nat} {n : Int} {P : Pt} {L : List Nd} (h : TabAt w b m n P L) (hb : Below w.heap.size w w') : ToY w w' b m n P L :=
  ⟨⟨P, h.later hb, fun _ _ e => Or.inl e⟩, Only.below hb⟩

/-- A table that New made. -/
structure MadeY (n : Int) (W : World) (e : Ending) (w : World) : Prop where
  ex : ∃ b m P, e = .returned (.tuple #[.pointer (some ⟨b, 0, none⟩), .int .i64 0]) ∧ TabAt w b m n P [(1, 0, 1, 0)] ∧ W.heap.size ≤ b ∧ (∀ k, tB m P k → W.heap.size ≤ k)
  below : Below W.heap.size W w
theorem newY_bad (n : Int) (w : World) (h : ¬ (1 ≤ n ∧ n ≤ 8)) : Calls Try.prog 10 #[.int .i64 n] w fun e w' => e = .returned (.tuple #[.pointer none, .int .i64 2]) ∧ w = w' := by
  by_cases h1 : n < 1
  · go_enter Try.func10, Try.ntmps10
    go_wp2
    go_ret2
    exact ⟨rfl, rfl⟩
  · have h2 : 8 < n := by omega
    go_enter Try.func10, Try.ntmps10
    go_wp2
    go_ret2
    exact ⟨rfl, rfl⟩
theorem GoodY.nil {n : Int} (h : 1 ≤ n ∧ n ≤ 8) : GoodY n [] := ⟨h, by simp, by simp⟩
set_option maxHeartbeats 1000000 in
theorem newY_ok (n : Int) (w : World) (h : 1 ≤ n ∧ n ≤ 8) : Calls Try.prog 10 #[.int .i64 n] w (MadeY n w) := by
  obtain ⟨w1, hw1⟩ : ∃ w1, w1 = (w.alloc (.map #[] 0)).alloc (.cells #[.int .i64 n, .map (some w.heap.size)] 49) := ⟨_, rfl⟩
  have B1 : Hid (Below w.heap.size w w1) := Lib.hid (by rw [hw1]; exact below_two _ _ _)
  have H1 : Hid (TabAt w1 (w.heap.size + 1) w.heap.size n (fun _ => none) []) := Lib.hid (by
    rw [hw1]
    exact ⟨heap_alloc2_new _ _ _, (ProcsAt.made w).same (((Below.refl _ _).alloc (Nat.le_refl _) _).block _ (by simp)), fun _ _ => rfl, fun i x e => (by simp [atN] at e), GoodY.nil h⟩)
  have h1 := h.1
  have h2 := h.2
  have HN := Lib.hid h
  have hmm := @run_makeMap Try.prog
  clear h
  go_enter Try.func10, Try.ntmps10
  go_wp2_with fail
  rw [← hw1]
  clear hw1
  refine (putY_raw _ _ _ _ 1 0 w1 H1.out.c1 H1.out.map (by decide) rfl).mono ?_
  rintro e w2 ⟨rfl, t1, t2, t3⟩
  have T := Lib.hid (H1.out.put (x := (1, 0, 1, 0)) (by simp) ⟨⟨by decide, HN.out.1⟩, by decide, by decide, by decide⟩ t1 t2 t3)
  have G := Lib.hid t3
  have Z := Lib.hid B1.out.size
  clear t1 t2 t3
  go_wp2
  go_ret2
  refine ⟨⟨_, _, _, rfl, T.out, by omega, fun k hk => ?_⟩, Only.old (B := fun k => k = w.heap.size) B1.out (Only.grown G.out rfl) Z.out (fun k hk => by omega)⟩
  rcases hk with rfl | ⟨i, hi⟩
  · exact Nat.le_refl _
  · unfold updP at hi
    split at hi
    · cases hi; exact Z.out
    · cases hi

/-- A process, by value. -/
def prV (x : Nd) : Value := .agg #[.int .i64 x.1, .int .i64 x.2.1, .int .i64 x.2.2.1, .int .u32 x.2.2.2]
theorem getY_no (p : Option Addr) (pid : Int) (w : World) (h : NoTab w p) (hl : ∀ b, p = some ⟨b, 0, none⟩ → b < w.heap.size) : Calls Try.prog 15 #[.pointer p, .int .i64 pid] w fun e w' => e = .returned (.tuple #[prV (0, 0, 0, 0), .bool false]) ∧ Below w.heap.size w w' := by
  obtain ⟨w1, hw1⟩ : ∃ w1, w1 = w.alloc (.cells #[.int .i64 0, .int .i64 0, .int .i64 0, .int .u32 0] 42) := ⟨_, rfl⟩
  have B1 : Hid (Below w.heap.size w w1) := Lib.hid (by rw [hw1]; exact (Below.refl _ _).alloc (Nat.le_refl _) _)
  have N1 : NoTab w1 p := by
    rcases h with h | ⟨b, h1, h2⟩
    · exact Or.inl h
    · exact Or.inr ⟨b, h1, (B1.out.cell (hl b h1)).trans h2⟩
  have NN := Lib.hid N1
  clear h hl N1
  go_enter Try.func15, Try.ntmps15
  go_wp2_with fail
  rw [← hw1]
  refine (findY_no p pid w1 NN.out).mono ?_
  rintro e w' ⟨rfl, rfl⟩
  rw [hw1]
  go_wp2
  refine ⟨rfl, _, ?_, rfl, ?_⟩
  · simp [results, Try.results15, go_sem]
    rfl
  · exact (Below.refl _ _).alloc (Nat.le_refl _) _
set_option maxHeartbeats 1000000 in
theorem getY_ok {b m : Nat} {n : Int} {P : Pt} {L : List Nd} {w : World} (h : TabAt w b m n P L) {pid : Int} (hi : I64 pid) : Calls Try.prog 15 #[.pointer (some ⟨b, 0, none⟩), .int .i64 pid] w fun e w' => e = .returned (.tuple #[prV (getP L pid), .bool (atN pid L).isSome]) ∧ Below w.heap.size w w' := by
  obtain ⟨w1, hw1⟩ : ∃ w1, w1 = w.alloc (.cells #[.int .i64 0, .int .i64 0, .int .i64 0, .int .u32 0] 42) := ⟨_, rfl⟩
  have B1 : Hid (Below w.heap.size w w1) := Lib.hid (by rw [hw1]; exact (Below.refl _ _).alloc (Nat.le_refl _) _)
  have H := Lib.hid (h.later B1.out)
  cases hp : P pid with
  | none =>
    have e0 := h.none_ hp
    have HP := Lib.hid hp
    have E0 := Lib.hid e0
    clear h hp e0
    go_enter Try.func15, Try.ntmps15
    go_wp2_with fail
    rw [← hw1]
    refine (findY_none H.out hi HP.out).mono ?_
    rintro e w' ⟨rfl, rfl⟩
    rw [hw1]
    go_wp2
    refine ⟨rfl, _, ?_, (by unfold getP; rw [E0.out]), ?_⟩
    · simp [results, Try.results15, go_sem]
      rfl
    · exact (Below.refl _ _).alloc (Nat.le_refl _) _
  | some p =>
    obtain ⟨x, e0, hx⟩ := h.proc hp
    have hpl : p < w.heap.size := lt_of_block hx
    obtain ⟨x1, x2, x3, x4⟩ := x
    obtain ⟨a0, a1, a2, a3, -⟩ := prO_cells hx
    have HP := Lib.hid hp
    have E0 := Lib.hid e0
    clear h hp e0 hx
    go_enter Try.func15, Try.ntmps15
    go_wp2_with fail
    rw [← hw1]
    refine (findY_some H.out hi HP.out).mono ?_
    rintro e w' ⟨rfl, rfl⟩
    rw [hw1]
    go_wp2
    refine ⟨rfl, _, ?_, (by unfold getP; rw [E0.out]), ?_⟩
    · simp [results, Try.results15, go_sem]
      rfl
    · exact (Below.refl _ _).alloc (Nat.le_refl _) _

theorem mkAllY (p : Option Addr) (w : World) : Calls Try.prog 27 #[.pointer p] w fun e w' => e = .returned (.func (.func 33) #[] #[.pointer (some ⟨w.heap.size, 0, none⟩)]) ∧ w' = w.alloc (.cells #[.pointer p] 24) := by
  have hmf : ∀ (fn : Fn) (first cap : Array Value) (w : World), (Instr.makeFunc fn first cap).run Try.prog w = .ok (.func fn first cap) w := fun _ _ _ _ => rfl
  go_enter Try.func27, Try.ntmps27
  go_wp2
  go_ret
  exact ⟨rfl, rfl⟩
theorem mkServedY (p : Option Addr) (w : World) : Calls Try.prog 35 #[.pointer p] w fun e w' => e = .returned (.func (.func 38) #[] #[.pointer (some ⟨w.heap.size, 0, none⟩)]) ∧ w' = w.alloc (.cells #[.pointer p] 24) := by
  have hmf : ∀ (fn : Fn) (first cap : Array Value) (w : World), (Instr.makeFunc fn first cap).run Try.prog w = .ok (.func fn first cap) w := fun _ _ _ _ => rfl
  go_enter Try.func35, Try.ntmps35
  go_wp2
  go_ret
  exact ⟨rfl, rfl⟩
theorem mkChildrenY (p q : Option Addr) (w : World) : Calls Try.prog 29 #[.pointer p, .pointer q] w fun e w' => e = .returned (.func (.func 34) #[] #[.pointer (some ⟨w.heap.size, 0, none⟩), .pointer (some ⟨w.heap.size + 1, 0, none⟩)]) ∧ w' = (w.alloc (.cells #[.pointer p] 24)).alloc (.cells #[.pointer q] 72) := by
  have hmf : ∀ (fn : Fn) (first cap : Array Value) (w : World), (Instr.makeFunc fn first cap).run Try.prog w = .ok (.func fn first cap) w := fun _ _ _ _ => rfl
  go_enter Try.func29, Try.ntmps29
  go_wp2
  go_ret
  exact ⟨rfl, rfl⟩
end Go.Proofs.Ytbmiodkdoacbeaa
