/- The walk of RingSafe. Condition: the arguments are as wide as their types, the slice lies in memory. -/
import Derived.Test.YtolefcbhiajbbaaG12
namespace Go.Proofs.Ytolefcbhiajbbaa
open Go.RowKit
set_option maxRecDepth 100000

theorem ringSafe_bad (c d s : Int) (n cl : Nat) (a : Option Addr) (h : ¬ (1 ≤ c ∧ c ≤ 8 ∧ 1 ≤ d ∧ d ≤ 8)) (W : World) : Calls Try.prog 4 #[.int .i64 c, .int .i64 d, .int .i64 s, .slice a n cl] W fun e w' => e = .returned (.bool true) ∧ Below W.heap.size W w' := by
  have NB := Lib.hid (new_badG c d h W)
  clear h
  go_enter Try.func4, Try.ntmps4
  go_wp2_with (first
    | (go_at_call 9; refine NB.out.mono ?_; rintro e w1 ⟨rfl, rfl⟩)
    | (go_at_call 8; refine (awake19 _).mono ?_; rintro e w2 ⟨rfl, hb⟩; have B := Lib.hid hb; clear hb))
  go_ret
  exact ⟨rfl, B.out⟩
theorem ringSafe_far (c d : Nat) (s : Int) (n cl : Nat) (a : Option Addr) (hc : 1 ≤ c ∧ c ≤ 8) (hd : 1 ≤ d ∧ d ≤ 8) (h : 20 < n ∨ (n ≤ 20 ∧ (c : Int) < s)) (W : World) : Calls Try.prog 4 #[.int .i64 (c : Int), .int .i64 (d : Int), .int .i64 s, .slice a n cl] W fun e w' => e = .returned (.bool true) ∧ Below W.heap.size W w' := by
  have NW := Lib.hid (LawG.new (Below.refl W.heap.size W) c d hc hd)
  clear hc hd
  rcases h with h | ⟨h1, h2⟩
  · have d1 : decide (20 < n) = true := decide_eq_true h
    go_enter Try.func4, Try.ntmps4
    go_wp2_with (first
      | (go_at_call 9; refine NW.out.mono ?_; rintro e w1 ⟨b, rfl, -, -, -, -, hb⟩; have B1 := Lib.hid hb; clear hb)
      | (go_at_call 8; refine (awake19 _).mono ?_; rintro e w2 ⟨rfl, hb⟩; have B := Lib.hid (B1.out.trans (hb.mono B1.out.size)); clear hb))
    go_ret
    exact ⟨rfl, B.out⟩
  · have d1 : decide (20 < n) = false := decide_eq_false (by omega)
    have d2 : decide ((c : Int) < s) = true := decide_eq_true h2
    go_enter Try.func4, Try.ntmps4
    go_wp2_with (first
      | (go_at_call 9; refine NW.out.mono ?_; rintro e w1 ⟨b, rfl, -, -, -, -, hb⟩; have B1 := Lib.hid hb; clear hb)
      | (go_at_call 8; refine (awake19 _).mono ?_; rintro e w2 ⟨rfl, hb⟩; have B := Lib.hid (B1.out.trans (hb.mono B1.out.size)); clear hb))
    go_ret
    exact ⟨rfl, B.out⟩
theorem LawG.put {W w w' : World} {b kb c d f m : Nat} {g g' : Nat → Int} (h : LawG W w b kb c d f m g) (hs : KepSt kb g' w') (ho : Only w w' (fun j => j = kb)) : LawG W w' b kb c d f m g' :=
  ⟨h.r.only ho h.ne, hs, Only.old h.bel ho h.bel.size (fun _ e => e ▸ h.k0), h.b0, h.k0, h.ne⟩
/-- A change, as an argument, whatever comes that leaves old memory as it was. -/
theorem ArgOps19.at_ {w : World} {a : Option Addr} {n c : Nat} {S : List (Int × List Int)} (h : ArgOps19 w (.slice a n c) S) {i : Nat} (hi : i < S.length) :
    ∃ b o ia ic, a = some ⟨b, o, none⟩ ∧ I64 (S.getD i default).1 ∧ (∀ x ∈ (S.getD i default).2, 0 ≤ x ∧ x ≤ 4294967295) ∧ ∀ V, Below w.heap.size w V → V.cell? ⟨b, o + i * 2, none⟩ = some (.int .i64 (S.getD i default).1) ∧ V.cell? ⟨b, o + i * 2 + 1, none⟩ = some (.slice ia (S.getD i default).2.length ic) ∧ RowAt V (.slice ia (S.getD i default).2.length ic) (S.getD i default).2 := by
  obtain ⟨a', c', he, hw, h⟩ := h
  injection he with e1
  subst e1
  rcases h with rfl | ⟨b, o, rfl, hlt, hc⟩
  · simp at hi
  · have hm : S.getD i default ∈ S := by rw [List.getD_eq_getElem?_getD, List.getElem?_eq_getElem hi]; exact List.getElem_mem _
    obtain ⟨u, h0, h1, ia, ic, rfl, -, -, -, h2, h3⟩ := hc i hi
    refine ⟨b, o, ia, ic, rfl, hw _ hm, h2, fun V hV => ?_⟩
    have k : ∀ q, V.cell? ⟨b, q, none⟩ = w.cell? ⟨b, q, none⟩ := fun q => hV.cell (p := ⟨b, q, none⟩) hlt
    refine ⟨(k _).trans h0, (k _).trans h1, ia, ic, rfl, ?_⟩
    rcases h3 with h3 | ⟨p, q, rfl, h4, h5⟩
    · exact Or.inl h3
    · exact Or.inr ⟨p, q, rfl, Nat.lt_of_lt_of_le h4 hV.size, fun j hj => (hV.cell (p := ⟨p, q + j, none⟩) h4).trans (h5 j hj)⟩
theorem words_quiet {w : World} {b c d f m n k : Nat} (R : RngAt w b c d f m) (hn : wdsG c d = n) : Calls Try.prog 19 #[.pointer (some ⟨b, 0, none⟩)] (w.drewN k) fun e w' => e = .returned (.int .i64 (n : Int)) ∧ ∃ q, w' = w.drewN q :=
  Calls.quiet_of (by have := words_okG (R.drewN k); rwa [hn] at this)
set_option maxHeartbeats 2000000 in
theorem ringSafe_ok (c d : Nat) (s : Int) (cl : Nat) (a : Option Addr) (O : List (Int × List Int)) (hc : 1 ≤ c ∧ c ≤ 8) (hd : 1 ≤ d ∧ d ≤ 8) (hs : s ≤ c) (W : World) (hO : ArgOps19 W (.slice a O.length cl) O) (hn : O.length ≤ 20) :
    Calls Try.prog 4 #[.int .i64 (c : Int), .int .i64 (d : Int), .int .i64 s, .slice a O.length cl] W fun e w' => e = .returned (.bool true) ∧ Below W.heap.size W w' := by
  have hz := kepZero
  have hmf : ∀ (fn : Fn) (first cap : Array Value) (w : World), (Instr.makeFunc fn first cap).run Try.prog w = .ok (.func fn first cap) w := fun _ _ _ _ => rfl
  have NW := Lib.hid (LawG.new (Below.refl W.heap.size W) c d hc hd)
  have HO := Lib.hid fun (i : Nat) => hO.at_ (i := i)
  have HC := Lib.hid hc
  have HD := Lib.hid hd
  have c8 := hc.2
  have d8 := hd.2
  obtain ⟨n, hnn⟩ : ∃ n, n = O.length := ⟨_, rfl⟩
  rw [← hnn] at HO hn ⊢
  have d1 : decide (20 < n) = false := decide_eq_false (by omega)
  have d1' : decide (20 < (n : Int)) = false := decide_eq_false (by omega)
  have d2 : decide ((c : Int) < s) = false := decide_eq_false (by omega)
  obtain ⟨S, hS⟩ : ∃ S : Nat, S = s.toNat := ⟨_, rfl⟩
  have HSS := Lib.hid hS
  clear hc hd hO hnn hS
  go_enter Try.func4, Try.ntmps4
  go_wp2_with fail
  refine NW.out.mono ?_
  rintro e w1 ⟨b, rfl, h0, -, -, hr, hb⟩
  have L1 := Lib.hid (LawG.start hr hb h0)
  obtain ⟨kb, hkb⟩ : ∃ kb, kb = w1.heap.size := ⟨_, rfl⟩
  rw [← hkb] at L1
  clear hr hb
  go_wp2_with fail
  rw [← hkb]
  clear hkb
  go_loopw [12] (fun i wr => ∃ j : Nat, i = .int .i64 (j : Int) ∧ j ≤ S ∧ ∃ g, LawG W wr b kb c d 0 j g) (fun i _ => (S - (intOf i).toNat))
  case atStart => exact ⟨0, rfl, Nat.zero_le _, _, L1.out⟩
  case round =>
    obtain ⟨j, rfl, hj, g, hl⟩ := hrel
    have LL := Lib.hid hl
    clear hl
    by_cases hlt : (j : Int) < s
    · have S1 := Lib.hid (LL.out.sendLit [(j : Int)] 1 _ rfl rfl (by intro y hy; simp at hy; omega) ⟨Nat.le_refl _, HD.out.1⟩ (by omega))
      have wj : IntKind.u32.wrap (j : Int) = (j : Int) := IntWalk.u32_in _ (by omega)
      go_wp2_with (first
        | (go_at_call 11; refine S1.out.mono ?_; rintro e w2 ⟨rfl, hl, -⟩; have L2 := Lib.hid hl; clear hl))
      go_roundw
      case rel => exact ⟨j + 1, by go_num, by have := HSS.out; omega, _, L2.out⟩
      case measure => have := HSS.out; simp [intOf]; omega
    · obtain rfl : S = j := by have := HSS.out; omega
      have SC : S ≤ c := LL.out.r.mc
      go_wp2_with fail
      go_loopw [13] (fun i v => ∃ q : Nat, i = .int .i64 (q : Int) ∧ q ≤ n ∧ ∃ g, LawG W v b kb c d 0 S g) (fun i _ => (n - (intOf i).toNat))
      case atStart => exact ⟨0, rfl, Nat.zero_le _, _, LL.out⟩
      case round =>
        clear LL
        obtain ⟨q, rfl, hq, g, hl⟩ := hrel
        have LL := Lib.hid hl
        clear hl
        by_cases hlt2 : q < n
        · obtain ⟨ob, oo, ia, ic, rfl, h64, hw, hcell⟩ := HO.out q hlt2
          obtain ⟨x0, x1, hrow⟩ := hcell wr LL.out.bel
          have CX := Lib.hid fun V (hV : Below wr.heap.size wr V) => hcell V (LL.out.bel.trans (hV.mono LL.out.bel.size))
          have HWD := Lib.hid hw
          obtain ⟨D, hD⟩ : ∃ D, D = (O.getD q default).1 := ⟨_, rfl⟩
          obtain ⟨L, hL⟩ : ∃ L, L = (O.getD q default).2 := ⟨_, rfl⟩
          obtain ⟨k, hk⟩ : ∃ k, k = L.length := ⟨_, rfl⟩
          rw [← hL] at x1 hrow CX HWD
          rw [← hD] at x0 CX h64
          rw [← hk] at x1 hrow CX
          have HK := Lib.hid hk
          have HROW := Lib.hid hrow
          obtain ⟨wn, hwn⟩ : ∃ wn, wn = wdsG c d := ⟨_, rfl⟩
          have wn72 : wn ≤ 72 := by rw [hwn]; exact wdsG_le c8 d8
          have WQ := Lib.hid fun (m : Nat) => words_quiet (k := m) LL.out.r hwn.symm
          have kmx : k ≤ 9223372036854775807 ∨ True := Or.inr trivial
          clear hw hcell hD hL hk hrow hwn kmx
          by_cases hk0 : k = 0
          · subst hk0
            go_wp2_with fail
            go_quiet (fail)
            have L2 := Lib.hid (LL.out.step (below_drewN (Below.refl _ _) nq))
            go_wp2
            go_roundw
            case rel => exact ⟨q + 1, by go_num, by omega, _, L2.out⟩
            case measure => simp [intOf]; omega
          · have k0 : decide (0 < k) = true := decide_eq_true (by omega)
            by_cases hD0 : D < 0
            · have e1 : decide (0 ≤ D) = false := decide_eq_false (by omega)
              go_wp2_with fail
              go_quiet (fail)
              have L2 := Lib.hid (LL.out.step (below_drewN (Below.refl _ _) nq))
              go_wp2
              go_roundw
              case rel => exact ⟨q + 1, by go_num, by omega, _, L2.out⟩
              case measure => simp [intOf]; omega
            · have e1 : decide (0 ≤ D) = true := decide_eq_true (by omega)
              by_cases hDn : (wn : Int) ≤ D
              · have e2 : decide (D < (wn : Int)) = false := decide_eq_false (by omega)
                go_wp2_with fail
                go_quiet ((go_at_call 19; exact WQ.out _))
                have L2 := Lib.hid (LL.out.step (below_drewN (Below.refl _ _) nq))
                go_wp2
                go_roundw
                case rel => exact ⟨q + 1, by go_num, by omega, _, L2.out⟩
                case measure => simp [intOf]; omega
              · have e2 : decide (D < (wn : Int)) = true := decide_eq_true (by omega)
                obtain ⟨i, rfl⟩ : ∃ i : Nat, D = (i : Int) := ⟨D.toNat, by omega⟩
                go_wp2_with fail
                go_quiet ((go_at_call 19; exact WQ.out _))
                obtain ⟨V, hV⟩ : ∃ V, V = wr.drewN nq := ⟨_, rfl⟩
                have BV : Below wr.heap.size wr V := by rw [hV]; exact below_drewN (Below.refl _ _) nq
                obtain ⟨y0, y1, ia', ic', he, hr⟩ := CX.out V BV
                obtain ⟨rfl, -, rfl⟩ : ia = ia' ∧ True ∧ ic = ic' := by injection he with e1 _ e3; exact ⟨e1, trivial, e3⟩
                obtain ⟨ib, io, rfl, -, hx⟩ := hr.resolve_left (by rintro rfl; exact hk0 HK.out)
                have z0 := hx 0 (by have := HK.out; omega)
                rw [Nat.add_zero] at z0
                have XW : Hid (0 ≤ L.getD 0 0 ∧ L.getD 0 0 < 4294967296) := Lib.hid (by
                  have := HWD.out (L.getD 0 0) (by rw [List.getD_eq_getElem?_getD, List.getElem?_eq_getElem (by have := HK.out; omega)]; exact List.getElem_mem _)
                  omega)
                obtain ⟨x, hx0⟩ : ∃ x, x = L.getD 0 0 := ⟨_, rfl⟩
                rw [← hx0] at z0 XW
                have L2 := Lib.hid (LL.out.step (BV.trans ((Below.refl V.heap.size V).drew.mono BV.size)))
                have PT := Lib.hid (put19_ok kb i g x XW.out V.drew L2.out.k (by omega))
                have kpos : 0 < k := by omega
                have kne : ¬ k = 0 := hk0
                rw [← hV]
                clear hV BV he hr hx hx0 x0 x1 HROW
                go_wp2_with fail
                go_still_tail 12, (by kernel_rfl)
                go_wp2_with (go_at_call 12; refine PT.out.mono ?_; rintro e w4 ⟨rfl, hs4, ho4⟩; have L4 := Lib.hid (L2.out.put hs4 ho4); clear hs4 ho4)
                go_roundw
                case rel => exact ⟨q + 1, by go_num, by omega, _, L4.out⟩
                case measure => simp [intOf]; omega
        · obtain rfl : q = n := by omega
          go_wp2_with fail
          go_loopw [14] (fun i v => ∃ q : Nat, i = .int .i64 (q : Int) ∧ q ≤ S ∧ ∃ f g, LawG W v b kb c d f (S - q) g) (fun i _ => (S - (intOf i).toNat))
          case atStart => exact ⟨0, rfl, Nat.zero_le _, 0, g, LL.out⟩
          case round =>
            clear LL
            obtain ⟨q, rfl, hq, f, g, hl⟩ := hrel
            by_cases hlt3 : (q : Int) < s
            · obtain ⟨m, hm⟩ : ∃ m, S - q = m + 1 := ⟨S - q - 1, by have := HSS.out; omega⟩
              rw [hm] at hl
              have LL := Lib.hid hl
              have NX := LL.out.next
              have GE := lenG_ge (d := d) (x := g (begG c d f 0)) HD.out.1 ((KepSt.keep kb).wd _ _ LL.out.k _ (by have := begG_lt (c := c) (d := d) (f := f) (i := 0) HC.out.1; have := wdsG_le c8 d8; omega)).1
              have RV := Lib.hid fun V (hb : Below wr.heap.size wr V) => (LL.out.step hb).recv
              generalize lenG d (g (begG c d f 0)) = ln at NX GE RV
              have NX := Lib.hid NX
              have g1 : decide (ln < 1) = false := decide_eq_false (by omega)
              have g2 : decide ((ln : Int) < 1) = false := decide_eq_false (by omega)
              have g3 : decide (d < ln) = false := decide_eq_false (by omega)
              have g4 : decide ((d : Int) < (ln : Int)) = false := decide_eq_false (by omega)
              clear hl GE
              go_wp2_with fail
              refine NX.out.mono ?_
              rintro e w2 ⟨rfl, hb⟩
              have RV2 := Lib.hid (RV.out w2 hb)
              clear hb
              go_wp2_with fail
              refine RV2.out.mono ?_
              rintro e w3 ⟨r, rfl, -, -, hl, -⟩
              have L3 := Lib.hid hl
              clear hl
              go_wp2
              go_roundw
              case rel => exact ⟨q + 1, by go_num, by have := HSS.out; omega, _, _, by have := L3.out; rwa [show S - (q + 1) = m by omega]⟩
              case measure => simp [intOf]; omega
            · obtain rfl : S = q := by have := HSS.out; omega
              rw [Nat.sub_self] at hl
              have LL := Lib.hid hl
              clear hl
              go_wp2_with fail
              refine (recv_emptyG LL.out.r _ _ _).mono ?_
              rintro e w2 ⟨rfl, hb⟩
              have L2 := Lib.hid (LL.out.step hb)
              have cb := L2.out.k.bad
              have LN := Lib.hid (len_okG L2.out.r)
              rw [show ((0 : Nat) : Int) = 0 from rfl] at LN
              clear hb
              go_wp2_with (first
                | (go_at_call 18; refine LN.out.mono ?_; rintro e w7 ⟨rfl, rfl⟩)
                | (go_at_call 8; refine (awake19 _).mono ?_; rintro e w8 ⟨rfl, hb⟩; have B8 := Lib.hid (L2.out.bel.trans (hb.mono L2.out.bel.size)); clear hb))
              go_ret
              exact ⟨rfl, B8.out⟩
theorem ringSafe_walk (c d s : Int) (v : Value) (O : List (Int × List Int)) (W : World) (_hc : -9223372036854775808 ≤ c ∧ c ≤ 9223372036854775807) (_hd : -9223372036854775808 ≤ d ∧ d ≤ 9223372036854775807) (_hs : -9223372036854775808 ≤ s ∧ s ≤ 9223372036854775807) (h : ArgOps19 W v O) : Calls Try.prog 4 #[.int .i64 c, .int .i64 d, .int .i64 s, v] W fun e w' => e = .returned (.bool true) ∧ Below W.heap.size W w' := by
  have h' := h
  obtain ⟨a, cl, rfl, _⟩ := h
  by_cases h : 1 ≤ c ∧ c ≤ 8 ∧ 1 ≤ d ∧ d ≤ 8
  · obtain ⟨c', rfl⟩ : ∃ c' : Nat, c = (c' : Int) := ⟨c.toNat, by omega⟩
    obtain ⟨d', rfl⟩ : ∃ d' : Nat, d = (d' : Int) := ⟨d.toNat, by omega⟩
    by_cases h5 : O.length ≤ 20 ∧ s ≤ c'
    · exact ringSafe_ok c' d' s cl a O (by omega) (by omega) h5.2 W h' h5.1
    · exact ringSafe_far c' d' s O.length cl a (by omega) (by omega) (by omega) W
  · exact ringSafe_bad c d s O.length cl a h W
end Go.Proofs.Ytolefcbhiajbbaa
