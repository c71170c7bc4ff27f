/- The contract of package slots' Add. Condition: the table lies as New laid it, or there is none. -/
import Derived.Test.YtbmiodkdoacbeaaY10
namespace Go.Proofs.Ytbmiodkdoacbeaa
open Go.RowKit Go.Maps
set_option maxRecDepth 100000

theorem addY_no (p : Option Addr) (pid : Int) (w : World) (h : NoTab w p) : Calls Try.prog 17 #[.pointer p, .int .i64 pid] w fun e w' => e = .returned (.tuple #[.int .i64 0, .int .i64 1]) ∧ w = w' := by
  go_enter Try.func17, Try.ntmps17
  go_wp2_with fail
  refine (findY_no p pid w h).mono ?_
  rintro e w' ⟨rfl, rfl⟩
  go_wp2
  go_ret2
  exact ⟨rfl, rfl⟩
theorem TabAt.some_of {w : World} {b m : Nat} {n : Int} {P : Pt} {L : List Nd} (h : TabAt w b m n P L) {i : Int} {x : Nd} (hx : x ∈ L) (hi : x.1 = i) : ∃ p, P i = some p := by
  obtain ⟨p, hp, -⟩ := h.inn i x (hi ▸ atN_mem h.good.up hx)
  exact ⟨p, hp⟩
theorem ToY.of {w w' : World} {b m : Nat} {n : Int} {P P' : Pt} {L : List Nd} (h : TabAt w' b m n P' L) (hp : ∀ id p, P' id = some p → P id = some p ∨ w.heap.size ≤ p) (ho : Only w w' (tB m P)) : ToY w w' b m n P L := ⟨⟨P', h, hp⟩, ho⟩
set_option maxHeartbeats 4000000 in
theorem addY_ok {w : World} {b m : Nat} {n : Int} {P : Pt} {L : List Nd} (h : TabAt w b m n P L) (parent : Int) (hi : I64 parent) :
    Calls Try.prog 17 #[.pointer (some ⟨b, 0, none⟩), .int .i64 parent] w fun e w' => e = .returned (.tuple #[.int .i64 (addP n L parent), .int .i64 (addE n L parent)]) ∧ ToY w w' b m n P (addL n L parent) := by
  have ST := Lib.hid (fun w' (hb : Below w.heap.size w w') => ToY.stay h hb)
  cases hp : P parent with
  | none =>
    have e4 : addE n L parent = 4 := by unfold addE; rw [h.none_ hp]
    have eP : addP n L parent = 0 := by unfold addP; rw [e4]; rfl
    have eL : addL n L parent = L := by unfold addL; rw [e4]; rfl
    rw [e4, eP, eL]
    have H := Lib.hid h
    have HP := Lib.hid hp
    clear h hp e4 eP eL
    go_enter Try.func17, Try.ntmps17
    go_wp2_with fail
    refine (findY_none H.out hi HP.out).mono ?_
    rintro e w' ⟨rfl, rfl⟩
    go_wp2
    go_ret2
    exact ⟨rfl, ST.out _ (Below.refl _ _)⟩
  | some p =>
    obtain ⟨x, hx, hpx⟩ := h.proc hp
    obtain ⟨a0, a1, a2, a3, -⟩ := prO_cells hpx
    have H := Lib.hid h
    have HP := Lib.hid hp
    by_cases h3 : x.2.2.1 = 3
    · have e9 : addE n L parent = 9 := by unfold addE; rw [hx]; simp only; rw [if_pos h3]
      have eP : addP n L parent = 0 := by unfold addP; rw [e9]; rfl
      have eL : addL n L parent = L := by unfold addL; rw [e9]; rfl
      rw [e9, eP, eL]
      rw [h3] at a2
      clear h hp hx hpx h3 e9 eP eL
      go_enter Try.func17, Try.ntmps17
      go_wp2_with fail
      refine (findY_some H.out hi HP.out).mono ?_
      rintro e w' ⟨rfl, rfl⟩
      go_wp2
      go_ret2
      exact ⟨rfl, ST.out _ (Below.refl _ _)⟩
    · have hb3 : (x.2.2.1 == 3) = false := by simpa using h3
      have hlen := run_lenP (w := w.drew) (h.map.same rfl)
      have c0 := h.c0
      have c1 := h.c1
      by_cases hfull : (L.length : Int) = n
      · have e3 : addE n L parent = 3 := by unfold addE; rw [hx]; simp only; rw [if_neg h3, if_pos hfull]
        have eP : addP n L parent = 0 := by unfold addP; rw [e3]; rfl
        have eL : addL n L parent = L := by unfold addL; rw [e3]; rfl
        have hbf : ((L.length : Int) == n) = true := by simpa using hfull
        rw [e3, eP, eL]
        clear h hp hx hpx h3 e3 eP eL hfull
        generalize x.2.2.1 = u at *
        generalize (L.length : Int) = k at *
        go_enter Try.func17, Try.ntmps17
        go_wp2_with fail
        refine (findY_some H.out hi HP.out).mono ?_
        rintro e w' ⟨rfl, rfl⟩
        go_wp2
        go_region
        all_goals
          go_wp2
          go_ret2
          exact ⟨rfl, ST.out _ (Below.refl _ _).drew⟩
      · have e0 : addE n L parent = 0 := by unfold addE; rw [hx]; simp only; rw [if_neg h3, if_neg hfull]
        have eP : addP n L parent = freeN 1 L := by unfold addP; rw [if_pos e0]
        have eL : addL n L parent = insN (freeN 1 L, parent, 1, 0) L := by unfold addL; rw [if_pos e0]
        have hbf : ((L.length : Int) == n) = false := by simpa using hfull
        obtain ⟨⟨hf1, hf2⟩, hf3⟩ := h.good.free hfull
        have hfs := (freeN_spec (k := 1) h.good.up (fun p hp => (h.good.ok p hp).1.1)).2.2.1
        have hn8 := h.good.most.2
        have hpar := (h.good.at_ hx).1
        rw [e0, eP, eL]
        have H2 := Lib.hid (h.later (Below.refl _ _).drew)
        obtain ⟨F, hF⟩ : ∃ F, F = freeN 1 L := ⟨_, rfl⟩
        rw [← hF] at hf1 hf2 hf3 hfs ⊢
        have HFS := Lib.hid hfs
        have HF3 := Lib.hid hf3
        have HNF := Lib.hid (show P F = none from h.out F (atN_none.2 hf3))
        have c0d := H2.out.c0
        have c1d := H2.out.c1
        clear h hp hx hpx h3 e0 eP eL hfull hfs hf3 hF ST
        generalize x.2.2.1 = u at *
        generalize hk : (L.length : Int) = k at *
        go_enter Try.func17, Try.ntmps17
        go_wp2_with fail
        refine (findY_some H.out hi HP.out).mono ?_
        rintro e w' ⟨rfl, rfl⟩
        go_wp2
        go_region
        all_goals
          clear hlen hk
          obtain ⟨w1, hw1⟩ : ∃ w1, w1 = w.drew := ⟨_, rfl⟩
          have B1 : Hid (Below w.heap.size w w1) := Lib.hid (by rw [hw1]; exact (Below.refl _ _).drew)
          have T1 : Hid (TabAt w1 b m n P L) := Lib.hid (by rw [hw1]; exact H2.out)
          try rw [← hw1]
          clear c0d c1d c0 c1 a0 a1 a2 a3 H2 hw1
          have c1 := T1.out.c1
          go_wp2
          go_loopw [8] (fun i wr => ∃ j : Int, i = .int .i64 j ∧ (1 ≤ j ∧ j ≤ F) ∧ wr = w1) (fun i _ => (F + 1 - intOf i).toNat)
          case atStart => exact ⟨1, rfl, ⟨by decide, hf1⟩, rfl⟩
          case round =>
            obtain ⟨j, rfl, ⟨hj1, hj2⟩, rfl⟩ := hrel
            by_cases hlt : j < F
            · obtain ⟨y, hy, hyj⟩ := HFS.out j hj1 hlt
              obtain ⟨q, hq⟩ := T1.out.some_of hy hyj
              have hl := run_look1 T1.out.map (y := j) (by omega) hq
              clear hy hyj hq
              go_wp2
              go_roundw
              case rel => exact ⟨j + 1, by go_num, ⟨by omega, by omega⟩, by trivial⟩
              case measure => simp [intOf]; omega
            · obtain rfl : j = F := by omega
              have hl := run_look0 T1.out.map (y := j) (by omega) HNF.out
              go_wp2_with fail
              refine (putY_raw b m L.length P j parent _ T1.out.c1 T1.out.map (by omega) HNF.out).mono ?_
              rintro e w2 ⟨rfl, t1, t2, t3⟩
              have TT := Lib.hid (T1.out.put (x := (j, parent, 1, 0)) HF3.out ⟨⟨hf1, hf2⟩, ⟨by simp only; omega, by simp only; omega⟩, (show (1 : Int) ≤ 1 ∧ (1 : Int) ≤ 3 by decide), (show (0 : Int) ≤ 0 ∧ (0 : Int) ≤ 4294967295 by decide)⟩ t1 t2 t3)
              have OO := Lib.hid (Only.grown (B := tB m P) t3 (Or.inl rfl))
              clear t1 t2 t3
              go_wp2
              go_ret2
              refine ⟨rfl, ToY.of TT.out (fun id p e => ?_) ((Only.below B1.out).trans OO.out)⟩
              unfold updP at e
              split at e
              · cases e; exact Or.inr B1.out.size
              · exact Or.inl e
end Go.Proofs.Ytbmiodkdoacbeaa
