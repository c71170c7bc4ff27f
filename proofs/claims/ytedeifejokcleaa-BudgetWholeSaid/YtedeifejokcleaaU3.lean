/- The contracts of package budget's ask, of, each, add. Condition: the budget lies as New laid it, or there is none. -/
import Derived.Test.YtedeifejokcleaaU2
namespace Go.Proofs.Ytedeifejokcleaa
open Go.RowKit Go.Maps
set_option maxRecDepth 100000

def numB (n : Int) : Bool := decide (0 ≤ n ∧ n ≤ 65536)
def idB (n : Int) : Bool := decide (1 ≤ n ∧ n ≤ 8)
theorem fitB_eq (id n : Int) : fitB id n = (idB id && numB n) := rfl
def askE (there : Bool) (n : Int) (ids : List Int) : Int := if there = true then (if numB n = true then (if ids.all idB = true then 0 else 2) else 2) else 1
theorem take_allB {ids : List Int} {j : Nat} (h : j < ids.length) (h1 : (ids.take j).all idB = true) (h2 : idB (ids.getD j 0) = true) : (ids.take (j + 1)).all idB = true := by
  have e : ids.getD j 0 = ids[j] := by simp [List.getD_eq_getElem?_getD, h]
  rw [List.take_succ_eq_append_getElem h, List.all_append, h1, ← e]
  simpa using h2
theorem not_allB {ids : List Int} {j : Nat} (h : j < ids.length) (h2 : idB (ids.getD j 0) = false) : ids.all idB = false := by
  have e : ids.getD j 0 = ids[j] := by simp [List.getD_eq_getElem?_getD, h]
  cases ha : ids.all idB with
  | false => rfl
  | true =>
    rw [List.all_eq_true] at ha
    have := ha _ (List.getElem_mem h)
    rw [← e, h2] at this
    cases this
set_option maxHeartbeats 1000000 in
theorem ask_any (p : Option Addr) (there : Bool) (n : Int) (ids : List Int) (g k : Nat) (w : World) (hk : k = ids.length) (hp : Calls Try.prog 30 #[.pointer p] w fun e w' => e = .returned (.bool there) ∧ w = w') (hl : k ≤ 2) (hc : ∀ i, i < k → w.cell? ⟨g, i, none⟩ = some (.int .i64 (ids.getD i 0))) :
    Calls Try.prog 33 #[.pointer p, .int .i64 n, .slice (some ⟨g, 0, none⟩) k k] w fun e w' => e = .returned (.int .i64 (askE there n ids)) ∧ w = w' := by
  have HP := Lib.hid hp
  have HC := Lib.hid hc
  have HK := Lib.hid hk
  clear hp hc hk
  go_enter Try.func33, Try.ntmps33
  go_wp2_with fail
  refine HP.out.mono ?_
  rintro e w1 ⟨rfl, rfl⟩
  cases there with
  | false =>
    go_wp2
    go_ret
    exact ⟨rfl, rfl⟩
  | true =>
    go_wp2_with fail
    refine (isNumber_ok n _).mono ?_
    rintro e w1 ⟨rfl, rfl⟩
    cases hn : numB n with
    | false =>
      have hn' : decide (0 ≤ n ∧ n ≤ 65536) = false := hn
      rw [hn']
      go_wp2
      go_ret
      exact ⟨by unfold askE; rw [if_pos rfl, hn]; rfl, rfl⟩
    | true =>
      have hn' : decide (0 ≤ n ∧ n ≤ 65536) = true := hn
      rw [hn']
      have HN := Lib.hid hn
      clear hn hn'
      go_wp2_with fail
      go_loopw [17] (fun i wr => ∃ j : Nat, i = .int .i64 (j : Int) ∧ j ≤ k ∧ wr = w ∧ (ids.take j).all idB = true) (fun i _ => (k - (intOf i).toNat))
      case atStart => exact ⟨0, rfl, Nat.zero_le _, rfl, by simp⟩
      case round =>
        obtain ⟨j, rfl, hj, rfl, hall⟩ := hrel
        have ALL := Lib.hid hall
        clear hall
        by_cases hlt : j < k
        · have c0 := HC.out j hlt
          cases hb : idB (ids.getD j 0) with
          | false =>
            have hb' : decide (1 ≤ ids.getD j 0 ∧ ids.getD j 0 ≤ 8) = false := hb
            have NB := Lib.hid (not_allB (by have := HK.out; omega) hb)
            generalize ids.getD j 0 = x at *
            go_wp2_with fail
            refine (isId_ok x _).mono ?_
            rintro e w1 ⟨rfl, rfl⟩
            rw [hb']
            go_wp2
            go_ret
            exact ⟨by unfold askE; rw [if_pos rfl, HN.out, if_pos rfl, NB.out]; rfl, rfl⟩
          | true =>
            have A2 := Lib.hid (take_allB (by have := HK.out; omega) ALL.out hb)
            have hb' : decide (1 ≤ ids.getD j 0 ∧ ids.getD j 0 ≤ 8) = true := hb
            generalize ids.getD j 0 = x at *
            go_wp2_with fail
            refine (isId_ok x _).mono ?_
            rintro e w1 ⟨rfl, rfl⟩
            rw [hb']
            go_wp2
            go_roundw
            case rel => exact ⟨j + 1, by go_num, by omega, by trivial, A2.out⟩
            case measure => simp [intOf]; omega
        · obtain rfl : j = k := by omega
          have e : ids.all idB = true := by have := ALL.out; rwa [HK.out, List.take_length] at this
          have E := Lib.hid e
          clear hlt e
          go_wp2
          go_ret
          exact ⟨by unfold askE; rw [if_pos rfl, HN.out, if_pos rfl, E.out]; rfl, rfl⟩

set_option maxHeartbeats 1000000 in
theorem each_ok (k : Nat) (caps : Array Value) (hent : ∀ (args : Array Value) (W : World), (callFunc k args).run Try.prog W = .ok (.enter k args) W) (b m : Nat) (P : Pt) (J : Int → World → Prop) (w : World)
    (hat : ∀ j V, J j V → V.cell? ⟨b, 0, none⟩ = some (.map (some m)) ∧ PtrsAt V m P)
    (hin : ∀ j p V, 1 ≤ j → j ≤ 8 → P j = some p → J j V → Calls Try.prog k (#[.pointer (some ⟨p, 0, none⟩)] ++ caps) V fun e w' => e = .returned (.tuple #[]) ∧ J (j + 1) w')
    (hout : ∀ j V, 1 ≤ j → j ≤ 8 → P j = none → J j V → J (j + 1) V) (h1 : J 1 w) :
    Calls Try.prog 31 #[.pointer (some ⟨b, 0, none⟩), .func (.func k) #[] caps] w fun e w' => e = .returned (.tuple #[]) ∧ J 9 w' := by
  have HAT := Lib.hid hat
  have HIN := Lib.hid hin
  have HOUT := Lib.hid hout
  have H1 := Lib.hid h1
  clear hat hin hout h1
  go_enter Try.func31, Try.ntmps31
  go_wp2_with fail
  go_loopw [4] (fun i wr => ∃ j : Int, i = .int .i64 j ∧ 1 ≤ j ∧ j ≤ 9 ∧ J j wr) (fun i _ => (9 - intOf i).toNat)
  case atStart => exact ⟨1, rfl, by decide, by decide, H1.out⟩
  case round =>
    obtain ⟨j, rfl, hj1, hj9, hJ⟩ := hrel
    have HJ := Lib.hid hJ
    clear hJ
    by_cases hlt : j ≤ 8
    · obtain ⟨c0, hmp⟩ := HAT.out j wr HJ.out
      have MP := Lib.hid hmp
      clear hmp
      cases hpj : P j with
      | none =>
        have N1 := Lib.hid (HOUT.out j wr hj1 hlt hpj HJ.out)
        have HPJ := Lib.hid hpj
        clear hpj
        go_wp2_with (refine wpList_ptr_ok _ rfl (.tmp 15) (.tmp 16) rfl m P rfl MP.out j rfl (by omega) none HPJ.out ?_)
        go_roundw
        case rel => exact ⟨j + 1, by go_num, by omega, by omega, N1.out⟩
        case measure => simp [intOf]; omega
      | some p =>
        have HPJ := Lib.hid hpj
        clear hpj
        go_wp2_with (first | (refine wpList_ptr_ok _ rfl (.tmp 15) (.tmp 16) rfl m P rfl MP.out j rfl (by omega) (some p) HPJ.out ?_) | fail)
        refine (HIN.out j p _ hj1 hlt HPJ.out HJ.out).mono ?_
        rintro e w2 ⟨rfl, hJ2⟩
        have J2 := Lib.hid hJ2
        clear hJ2
        go_wp2
        go_roundw
        case rel => exact ⟨j + 1, by go_num, by omega, by omega, J2.out⟩
        case measure => simp [intOf]; omega
    · obtain rfl : j = 9 := by omega
      clear hlt hj1 hj9
      go_wp2
      go_end0
      exact ⟨rfl, HJ.out⟩
end Go.Proofs.Ytedeifejokcleaa
