/- The contract of package slots' iterator over all processes: it tells each that is there when its number comes, whatever the rounds do. Condition: the table lies as New laid it. -/
import Derived.Test.YtbmiodkdoacbeaaY3
import Derived.Test.YtbmiodkdoacbeaaR3
namespace Go.Proofs.Ytbmiodkdoacbeaa
open Go.RowKit Go.Shelf Go.Maps
attribute [local go_sem] Oper.semAt_some
set_option maxRecDepth 100000

/-- A place in a walk over the table: the number that comes, to which block each number leads, the processes. -/
abbrev PlY := Int × Pt × List Nd
def encP (p : Nat) : Array Value := #[.pointer (some ⟨p, 0, none⟩)]
def wayAll (b m : Nat) (n : Int) : Way PlY Nat where
  At s V := TabAt V b m n s.2.1 s.2.2
  S s p := (1 ≤ s.1 ∧ s.1 ≤ n) ∧ s.2.1 s.1 = some p
  Nx s s' := s'.1 = s.1 + 1
  Ps s s' := (s'.1 = s.1 + 1 ∧ s'.2 = s.2) ∧ (1 ≤ s.1 ∧ s.1 ≤ n) ∧ s.2.1 s.1 = none
  Start s := s.1 = 1
  Fin s := s.1 = n + 1
def boxT (b : Nat) : Obj := .cells #[.pointer (some ⟨b, 0, none⟩)] 24 (0, 0)
structure AllRel (W : World) (b m bt : Nat) (n : Int) (J : PlY → World → Prop) (s : PlY) (wr : World) : Prop where
  le : 1 ≤ s.1 ∧ s.1 ≤ n + 1
  told : J s wr
  size : W.heap.size ≤ wr.heap.size
  box : wr.heap[bt]? = some (boxT b)
  tab : TabAt wr b m n s.2.1 s.2.2
set_option maxHeartbeats 4000000 in
theorem all_g (T : TypeId) (b m bt : Nat) (n : Int) (w : World) (hbt : w.heap[bt]? = some (boxT b)) :
    SeqG T Try.prog 33 #[.pointer (some ⟨bt, 0, none⟩)] encP (wayAll b m n) (fun k => k = bt) w := by
  intro l J Jx W s0 hK hz hJ hJx hat hY hP hst h0
  have hb0 : W.heap[bt]? = some (boxT b) := (hK bt rfl).2.trans hbt
  have hbl : bt < W.heap.size := lt_of_block hb0
  have R0 : Hid (AllRel W b m bt n J s0 W) := Lib.hid ⟨by
    have h1 := (hat _ _ h0 : TabAt W b m n s0.2.1 s0.2.2).good.most
    have h2 : s0.1 = 1 := hst
    omega, h0, Nat.le_refl _, hb0, hat _ _ h0⟩
  have HY := Lib.hid hY
  have HPS := Lib.hid hP
  have HAT := Lib.hid hat
  have hs1 : s0.1 = 1 := hst
  clear hbt hb0 hK hz hJ hJx hY hP hat h0 hst
  refine (callsIn_wide (n := 7)).1 ?_
  refine callsIn_of_wp Try.func33 rfl trivial ?_ rfl
  simp only [Try.ntmps33, List.size_toArray, List.length_cons, List.length_nil, Nat.reduceAdd, Nat.reduceSub, Array.replicate_succ, Array.replicate_zero, List.push_toArray, List.append_toArray, List.nil_append, List.cons_append]
  gi_wp2
  gi_loopw [3] (fun i wr => ∃ s : PlY, i = .int .i64 s.1 ∧ AllRel W b m bt n J s wr) (fun i _ => (n + 1 - intOf i).toNat)
  case atStart => exact ⟨s0, by rw [hs1], R0.out⟩
  case round =>
    obtain ⟨⟨j, P, L⟩, rfl, hR⟩ := hrel
    have RR := Lib.hid hR
    have hj1 := hR.le.1
    have hj2 := hR.le.2
    have hn1 := hR.tab.good.most.1
    have hn2 := hR.tab.good.most.2
    have q0 : wr.cell? ⟨bt, 0, none⟩ = some (.pointer (some ⟨b, 0, none⟩)) := cell_of_one hR.box
    have q1 := hR.tab.c0
    have q2 := hR.tab.c1
    simp only at hj1 hj2
    clear hR hs1
    by_cases hlt : j ≤ n
    · cases hp : P j with
      | none =>
        have hl := run_ok0 RR.out.tab.map (y := j) (by omega) hp
        have N1 := Lib.hid (HPS.out (j, P, L) (j + 1, P, L) wr RR.out.told ⟨⟨rfl, rfl⟩, ⟨hj1, hlt⟩, hp⟩)
        clear hp
        gi_wp2
        refine ⟨fun _ h => (by cases h), ?_⟩
        gi_wp2
        go_roundw
        case rel => exact ⟨(j + 1, P, L), by go_num, ⟨by simp only; omega, by simp only; omega⟩, N1.out, RR.out.size, RR.out.box, RR.out.tab⟩
        case measure => simp [intOf]; omega
      | some p =>
        have hl := run_ok1 RR.out.tab.map (y := j) (by omega) hp
        obtain ⟨fn, tmps, assign, body, hy, hR⟩ := HY.out (j, P, L) p wr 6 RR.out.told RR.out.size ⟨⟨hj1, hlt⟩, hp⟩
        dsimp only [encP] at hy
        have HR := Lib.hid hR
        clear hp hR
        gi_wp2
        refine HR.out.mono ?_
        rintro e W3 ⟨hk, ⟨rfl, ⟨j', P', L'⟩, hj', hJ3⟩ | ⟨rfl, hJ3⟩⟩
        · have hj3 : j' = j + 1 := hj'
          subst hj3
          have R3 : Hid (AllRel W b m bt n J (j + 1, P', L') W3) := Lib.hid ⟨⟨by simp only; omega, by simp only; omega⟩, hJ3, Nat.le_trans RR.out.size hk.size, hk.same bt _ RR.out.box (Or.inl rfl), HAT.out _ _ hJ3⟩
          clear hk hJ3 hj'
          gi_wp2
          go_roundw
          case rel => exact ⟨(j + 1, P', L'), by go_num, R3.out⟩
          case measure => simp [intOf]; omega
        · gi_wp2
          refine bodyPost_ret (results_none rfl _ _ _) rfl ?_
          exact ⟨⟨_, rfl⟩, Or.inr hJ3⟩
    · obtain rfl : j = n + 1 := by omega
      clear hlt
      gi_wp2
      go_end0
      exact ⟨⟨_, rfl⟩, Or.inl ⟨(n + 1, P, L), (rfl : n + 1 = n + 1), RR.out.told⟩⟩
end Go.Proofs.Ytbmiodkdoacbeaa
