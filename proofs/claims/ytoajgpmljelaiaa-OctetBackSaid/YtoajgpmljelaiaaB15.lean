/- The walk of OctetBack. Conditions: the slices lie as they say. -/
import Derived.Test.YtoajgpmljelaiaaB14
namespace Go.Proofs.Ytoajgpmljelaiaa
open Go.RowKit
set_option maxRecDepth 100000

set_option maxHeartbeats 400000 in
theorem back_long (a1 : Option Addr) (m c1 : Nat) (v : Value) (s : ByteArray) (W : World) (hs : s.size ≤ maxLen) (h : 100 < m ∨ (m ≤ 100 ∧ 1000 < s.size)) : Calls Try.prog 5 #[.slice a1 m c1, v, .string s] W fun e w' => e = .returned (.bool true) ∧ Below W.heap.size W w' := by
  unfold maxLen at hs
  rcases h with h | ⟨h, h2⟩
  all_goals
    go_enter Try.func5, Try.ntmps5
    go_wp2_with (go_at_call 10; refine (awake_ok _).mono ?_; rintro e w1 ⟨rfl, hb⟩)
    go_ret
    exact ⟨rfl, hb⟩

theorem u32Info : (Try.prog.info? 22).map (fun i => (i.zero, i.size, i.bytes)) = some (some (.int .u32 0), 1, 4) := by kernel_rfl
theorem intInfo : (Try.prog.info? 3).map (fun i => (i.zero, i.size, i.bytes)) = some (some (.int .i64 0), 1, 8) := by kernel_rfl
theorem one_at (w : World) (u : Value) (t : TypeId) : ∀ (j : Nat) (x : Value), [u][j]? = some x → (w.alloc (.cells #[u] t)).cell? ((⟨w.heap.size, 0, none⟩ : Addr).add j) = some x := fun j x hx => by
  rw [Addr.add_mid, cell_of_row _ _ _ _ _ _ (heap_alloc_new w _)]
  match j, hx with
  | 0, hx => exact hx
  | j + 1, hx => simp at hx
theorem put_take (z : List UInt8) (j : Nat) (hz : z.length = j) (h1 : 1 ≤ j) (h2 : j ≤ 4) (w : World) : Calls Try.prog 8 #[.int .u32 (numOf z : Int), .int .i64 j] w fun e w' => e = .returned (.tuple #[strV z, .int .i64 0]) ∧ Below w.heap.size w w' := by
  have := put_ok (numOf z) j w h1 h2 (by have := numOf_lt z; rwa [hz] at this)
  rwa [show bytesOf (numOf z) j = z by have := bytesOf_numOf z; rwa [hz] at this] at this
theorem numS_yes (l : List UInt8) (j : Nat) (h1 : 1 ≤ j) (h2 : j ≤ 4) (h3 : j ≤ l.length) : numS (some l) j = (numOf (l.take j), some (l.drop j)) := by
  simp only [numS]
  rw [if_pos ⟨⟨by omega, by omega⟩, by simpa using h3⟩]; rfl
theorem numS_no (l : List UInt8) (y : Int) (h : ¬ (okW y ∧ y.toNat ≤ l.length)) : numS (some l) y = (0, none) := by
  simp only [numS]
  rw [if_neg h]
def Back1 (W : World) (m n : Nat) (s kept wide i : Value) (wr : World) : Prop := ∃ (k : Nat) (Q : QL), i = .int .i64 k ∧ k ≤ m ∧ k ≤ n ∧ Q.length ≤ k ∧ s = strV (enc Q) ∧ Kept W wr kept wide Q
def Back2 (W : World) (b g1 g2 : Nat) (Q : QL) (i : Value) (wr : World) : Prop := ∃ j : Nat, i = .int .i64 j ∧ j ≤ Q.length ∧ Rd wr b (some (enc (Q.drop j))) ∧ (Q = [] ∨ Cells2 wr g1 g2 Q) ∧ Below W.heap.size W wr
def Back3 (W : World) (b n : Nat) (t : List UInt8) (s i : Value) (wr : World) : Prop := ∃ k p : Nat, i = .int .i64 k ∧ k ≤ n ∧ k ≤ 100 ∧ p ≤ t.length ∧ s = strV (t.take p) ∧ Rd wr b (some (t.drop p)) ∧ Below W.heap.size W wr
set_option maxHeartbeats 8000000 in
theorem back_in (L : List Nat) (a1 : Option Addr) (c1 : Nat) (K : List Int) (a2 : Option Addr) (c2 : Nat) (t : List UInt8) (W : World) (hm : L.length ≤ 100) (ht : t.length ≤ 1000)
    (hL : ∀ x ∈ L, x < 4294967296) (hK : ∀ x ∈ K, -9223372036854775808 ≤ x ∧ x ≤ 9223372036854775807)
    (h1 : L = [] ∨ ∃ b o, a1 = some ⟨b, o, none⟩ ∧ b < W.heap.size ∧ ∀ i, i < L.length → W.cell? ⟨b, o + i, none⟩ = some (.int .u32 ((L.getD i 0 : Nat) : Int)))
    (h2 : K = [] ∨ ∃ b o, a2 = some ⟨b, o, none⟩ ∧ b < W.heap.size ∧ ∀ i, i < K.length → W.cell? ⟨b, o + i, none⟩ = some (.int .i64 (K.getD i 0))) :
    Calls Try.prog 5 #[.slice a1 L.length c1, .slice a2 K.length c2, strV t] W fun e w' => e = .returned (.bool true) ∧ Below W.heap.size W w' := by
  obtain ⟨iu, hu, hu0, hu1, hu2⟩ := info_parts u32Info
  obtain ⟨ii, hi, hi0, hi1, hi2⟩ := info_parts intInfo
  have H1 := Lib.hid h1
  have H2 := Lib.hid h2
  have HL := Lib.hid hL
  have HK := Lib.hid hK
  obtain ⟨m, hmL⟩ : ∃ m, m = L.length := ⟨_, rfl⟩
  obtain ⟨n, hnK⟩ : ∃ n, n = K.length := ⟨_, rfl⟩
  rw [← hmL] at hm ⊢
  rw [← hnK]
  have HmL := Lib.hid hmL
  have HnK := Lib.hid hnK
  have hs : (ByteArray.mk t.toArray).size = t.length := by simp [ByteArray.size]
  clear h1 h2 hL hK hmL hnK
  go_enter Try.func5, Try.ntmps5
  go_wp2_with fail
  go_loopw [7, 8, 9, 10] (fun s kept wide i wr => Back1 W m n s kept wide i wr) (fun _ _ _ i _ => (m - (intOf i).toNat))
  case atStart => exact ⟨0, [], rfl, Nat.zero_le _, Nat.zero_le _, Nat.le_refl _, rfl, Kept.start W⟩
  case round =>
    obtain ⟨k, Q, rfl, hk, hkn, hQ, rfl, hd⟩ := hrel
    have D := Lib.hid hd
    clear hd
    by_cases hlt : k < m ∧ k < n
    · obtain ⟨l1, l2⟩ := hlt
      obtain ⟨g, o, rfl, hbW, hc⟩ := H1.out.resolve_left (by intro e; have := HmL.out; rw [e] at this; simp at this; omega)
      obtain ⟨g', o', rfl, hbW', hc'⟩ := H2.out.resolve_left (by intro e; have := HnK.out; rw [e] at this; simp at this; omega)
      have x1 := hc k (by have := HmL.out; omega)
      have x2 := hc' k (by have := HnK.out; omega)
      have hx := HL.out (L.getD k 0) (by rw [List.getD_eq_getElem?_getD, List.getElem?_eq_getElem (by have := HmL.out; omega)]; exact List.getElem_mem _)
      have hy := HK.out (K.getD k 0) (by rw [List.getD_eq_getElem?_getD, List.getElem?_eq_getElem (by have := HnK.out; omega)]; exact List.getElem_mem _)
      generalize L.getD k 0 = x at x1 hx
      generalize K.getD k 0 = y at x2 hy
      clear hc hc'
      have hel := enc_length Q D.out.ok
      have hadd := fun (z : List UInt8) (hz : z.length ≤ 4) => str_add (enc Q) z (by omega)
      by_cases hp : okPut x y
      · obtain ⟨⟨p1, p2⟩, p3⟩ := hp
        obtain ⟨j, rfl⟩ := Int.eq_ofNat_of_zero_le (show 0 ≤ y by omega)
        have P3 : Hid (x < 256 ^ j) := Lib.hid p3
        have p1 : 1 ≤ j := by omega
        have p2 : j ≤ 4 := by omega
        have hadd := hadd (bytesOf x j) (by rw [bytesOf_length]; omega)
        have X1 := Lib.hid x1
        have X2 := Lib.hid x2
        have c1 := (D.out.below.cell (p := ⟨g, o + k, none⟩) hbW).trans x1
        have c2 := (D.out.below.cell (p := ⟨g', o' + k, none⟩) hbW').trans x2
        clear p3 hy x1 x2
        go_wp2_with fail
        go_region_held3 (fun w' => w'.cell? ⟨g, o + k, none⟩ = some (.int .u32 (x : Int)) ∧ w'.cell? ⟨g', o' + k, none⟩ = some (.int .i64 (j : Int))) (go_keep)
          (first
            | (go_at_call 8; refine (put_ok x j _ p1 p2 P3.out).mono ?_; rintro e w2 ⟨rfl, hb⟩; have D2 := Lib.hid (D.out.step ((Below.refl _ _).drew.trans hb)); clear hb; have c1 := (D2.out.below.cell (p := ⟨g, o + k, none⟩) hbW).trans X1.out; have c2 := (D2.out.below.cell (p := ⟨g', o' + k, none⟩) hbW').trans X2.out))
        have A2 := Lib.hid ((Below.refl w2.heap.size w2).alloc (Nat.le_refl _) (.cells #[.int .u32 (x : Int)] 22))
        have O2 := Lib.hid (D2.out.o1.alloc (.cells #[.int .u32 (x : Int)] 22))
        have Z2 := Lib.hid (Nat.le_trans D2.out.below.size A2.out.size)
        go_wp2_with (first
          | (at_builtin; refine wpList_append_own _ rfl (.tmp 60) (.tmp 65) 43 rfl W.heap.size 22 iu (.int .u32 0) 1 4 Try.underlying43 hu hu0 hu1 hu2 rfl (by decide) _ Q.length _ rfl O2.out ⟨w2.heap.size, 0, none⟩ 1 1 [.int .u32 (x : Int)] rfl rfl (one_at w2 _ _) (by simp [Value.oneCell']) (by unfold maxLen; omega) (by omega) Z2.out ?_; intro v3 w3 ho hg _; have D3 := Lib.hid (Kept.first (D2.out.step A2.out) ho hg); clear ho hg; have A3 := Lib.hid ((Below.refl w3.heap.size w3).alloc (Nat.le_refl _) (.cells #[.int .i64 (j : Int)] 3)); have O3 := Lib.hid (D3.out.o2.alloc (.cells #[.int .i64 (j : Int)] 3)); have Z3 := Lib.hid (Nat.le_trans D3.out.below.size A3.out.size); have c2 := (D3.out.below.cell (p := ⟨g', o' + k, none⟩) hbW').trans X2.out)
          | (at_builtin; refine wpList_append_own _ rfl (.tmp 67) (.tmp 72) 44 rfl W.heap.size 3 ii (.int .i64 0) 1 8 Try.underlying44 hi hi0 hi1 hi2 rfl (by decide) _ Q.length _ rfl O3.out ⟨w3.heap.size, 0, none⟩ 1 1 [.int .i64 (j : Int)] rfl rfl (one_at w3 _ _) (by simp [Value.oneCell']) (by unfold maxLen; omega) (by omega) Z3.out ?_; intro v4 w4 ho hg _; have D4 := Lib.hid (Half.second (D3.out.step A3.out) p1 p2 P3.out ho hg); clear ho hg))
        go_roundw
        case rel => exact ⟨k + 1, Q ++ [(x, j)], by go_num, by omega, by omega, by simp; omega, by rw [enc_snoc], D4.out⟩
        case measure => simp [intOf]; omega
      · have P := Lib.hid hp
        have X1 := Lib.hid x1
        have X2 := Lib.hid x2
        have c1 := (D.out.below.cell (p := ⟨g, o + k, none⟩) hbW).trans x1
        have c2 := (D.out.below.cell (p := ⟨g', o' + k, none⟩) hbW').trans x2
        clear hp hadd x1 x2
        go_wp2_with fail
        go_region_held3 (fun w' => w'.cell? ⟨g, o + k, none⟩ = some (.int .u32 (x : Int)) ∧ w'.cell? ⟨g', o' + k, none⟩ = some (.int .i64 y)) (go_keep)
          (first
            | (go_at_call 8; refine (put_no x y P.out _).mono ?_; rintro e w2 ⟨rfl, rfl⟩))
        have D2 := Lib.hid (D.out.step (Below.refl _ _).drew)
        go_wp2
        go_roundw
        case rel => exact ⟨k + 1, Q, by go_num, by omega, by omega, by omega, rfl, D2.out⟩
        case measure => simp [intOf]; omega
    · have hend : (m = k) ∨ (k < m ∧ n = k) := by omega
      have hel := enc_length Q D.out.ok
      clear hlt
      rcases hend with rfl | ⟨hlt, rfl⟩
      all_goals
        go_wp2_with fail
        refine (new5_ok (enc Q) (by unfold maxLen; omega) wr).mono ?_
        rintro e w2 ⟨b, rfl, hR, hle, hb⟩
        obtain ⟨a3, c3, a4, c4, rfl, rfl, hcells⟩ := D.out.open_
        have hcells2 : ∃ g1 g2, (Q = [] ∨ (a3 = some ⟨g1, 0, none⟩ ∧ a4 = some ⟨g2, 0, none⟩ ∧ g1 ≠ b ∧ g2 ≠ b)) ∧ (Q = [] ∨ Cells2 w2 g1 g2 Q) := by
          rcases hcells with h | ⟨g1, g2, e1, e2, l1, l2, hc⟩
          · exact ⟨0, 0, Or.inl h, Or.inl h⟩
          · exact ⟨g1, g2, Or.inr ⟨e1, e2, by omega, by omega⟩, Or.inr (hc.below hb)⟩
        obtain ⟨g1, g2, hgs, hc2⟩ := hcells2
        have GS := Lib.hid hgs
        have C2 := Lib.hid hc2
        have R2 := Lib.hid hR
        have B2 := Lib.hid (D.out.below.trans (hb.mono D.out.below.size))
        have LE := Lib.hid (Nat.le_trans D.out.below.size hle)
        have OK := Lib.hid D.out.ok
        have hQ100 : Q.length ≤ 100 := by omega
        clear hcells hgs hc2 hR hb hle hel
        go_wp2_with fail
        obtain ⟨q, hq⟩ : ∃ q, q = Q.length := ⟨_, rfl⟩
        rw [← hq] at hQ100 ⊢
        have HQ := Lib.hid hq
        clear hq
        go_loopw [14] (fun i wr => Back2 W b g1 g2 Q i wr) (fun i _ => (q - (intOf i).toNat))
        case atStart => exact ⟨0, rfl, Nat.zero_le _, R2.out, C2.out, B2.out⟩
        case round =>
          obtain ⟨j, rfl, hj, hr, hc, hbw⟩ := hrel
          have R := Lib.hid hr
          have B := Lib.hid hbw
          by_cases hlt2 : j < q
          · have hne : ¬ Q = [] := by intro e; have := HQ.out; rw [e] at this; simp at this; omega
            obtain ⟨rfl, rfl, n1, n2⟩ := GS.out.resolve_left hne
            have hc := hc.resolve_left hne
            have C := Lib.hid hc
            obtain ⟨d1, d2⟩ := hc j (by have := HQ.out; omega)
            have hnum := numS_enc Q OK.out j (by have := HQ.out; omega)
            generalize Q.getD j default = z at d1 d2 hnum
            obtain ⟨x, y⟩ := z
            simp only at d1 d2 hnum
            have NUM := Lib.hid hnum
            have D1 := Lib.hid d1
            have D2 := Lib.hid d2
            clear hr hc hbw hnum hne
            go_wp2_with fail
            go_region_held3 (fun w' => w'.cell? ⟨g1, j, none⟩ = some (.int .u32 (x : Int)) ∧ w'.cell? ⟨g2, j, none⟩ = some (.int .i64 (y : Int))) (go_keep)
              (first
                | (go_at_call 14; refine (num_ok b _ (y : Int) x _ NUM.out _ (by exact R.out.below (Below.refl _ _).drew)).mono ?_; rintro e w3 ⟨rfl, hr, hg⟩; have R3 := Lib.hid hr; have G3 := Lib.hid (grownBy_from (a := wr) hg rfl rfl rfl rfl); clear hr hg; have d1 := G3.out.cell D1.out (fun e => n1 (Option.some.inj e)); have d2 := G3.out.cell D2.out (fun e => n2 (Option.some.inj e)))
                | (go_at_call 18; refine (fine_ok b _ _ (by exact R3.out)).mono ?_; rintro e w4 ⟨rfl, rfl⟩))
            have C3 := Lib.hid (C.out.grown G3.out n1 n2)
            have B3 := Lib.hid (B.out.trans (below_of_grownBy G3.out B.out.size LE.out))
            go_wp2
            go_roundw
            case rel => exact ⟨j + 1, by go_num, by have := HQ.out; omega, R3.out, Or.inr C3.out, B3.out⟩
            case measure => simp [intOf]; omega
          · have hend2 : Q.drop j = [] := by rw [List.drop_eq_nil_iff]; have := HQ.out; omega
            rw [hend2] at R
            clear hr hc hbw hend2
            go_wp2_with fail
            refine (left_ok b _ wr R.out).mono ?_
            rintro e w3 ⟨rfl, rfl⟩
            rw [show (leftN (some (enc [])) : Int) = 0 from rfl]
            go_wp2_with fail
            refine (fine_ok b _ wr R.out).mono ?_
            rintro e w3 ⟨rfl, rfl⟩
            go_wp2_with fail
            refine (new5_ok t (by unfold maxLen; omega) wr).mono ?_
            rintro e w3 ⟨b2, rfl, hR, hle, hb⟩
            have R3 := Lib.hid hR
            have LE3 := Lib.hid (Nat.le_trans B.out.size hle)
            have B3 := Lib.hid (B.out.trans (hb.mono B.out.size))
            clear hR hle hb R
            go_wp2_with fail
            go_loopw [16, 17] (fun s i wr => Back3 W b2 n t s i wr) (fun _ i _ => (n - (intOf i).toNat))
            case atStart => exact ⟨0, 0, rfl, Nat.zero_le _, Nat.zero_le _, Nat.zero_le _, rfl, by simpa using R3.out, B3.out⟩
            case round =>
              obtain ⟨i, p, rfl, hin, hi100, hpt, rfl, hr, hbw⟩ := hrel
              have R4 := Lib.hid hr
              have B4 := Lib.hid hbw
              clear hr hbw
              by_cases hlt3 : i < n ∧ i < 100
              · obtain ⟨l1, l2⟩ := hlt3
                obtain ⟨g', o', rfl, hbW', hc'⟩ := H2.out.resolve_left (by intro e; have := HnK.out; rw [e] at this; simp at this; omega)
                have x2 := hc' i (by have := HnK.out; omega)
                generalize K.getD i 0 = y at x2
                have X2 := Lib.hid x2
                have c2 := (B4.out.cell (p := ⟨g', o' + i, none⟩) hbW').trans x2
                obtain ⟨d, hd⟩ : ∃ d, d = (t.drop p).length := ⟨_, rfl⟩
                have hd' : d = t.length - p := by rw [hd, List.length_drop]
                have HD := Lib.hid hd
                have dle : d ≤ 1000 := by omega
                have HD' := Lib.hid hd'
                clear hd hd' hc' x2
                go_wp2_with fail
                refine (left_ok b2 _ wr R4.out).mono ?_
                rintro e w3 ⟨rfl, rfl⟩
                rw [show leftN (some (t.drop p)) = d from HD.out.symm]
                by_cases hh : okW y ∧ y.toNat ≤ d
                · obtain ⟨⟨p1, p2⟩, p3⟩ := hh
                  obtain ⟨j, rfl⟩ := Int.eq_ofNat_of_zero_le (show 0 ≤ y by omega)
                  have p1 : 1 ≤ j := by omega
                  have p2 : j ≤ 4 := by omega
                  have p3 : j ≤ d := p3
                  have NUM := Lib.hid (numS_yes (t.drop p) j p1 p2 (by rw [← HD.out]; exact p3))
                  go_wp2_with fail
                  refine (num_ok b2 _ (j : Int) _ _ NUM.out wr R4.out).mono ?_
                  rintro e w4 ⟨rfl, hr, hg⟩
                  have R5 := Lib.hid hr
                  have B5 := Lib.hid (B4.out.trans (below_of_grownBy hg B4.out.size LE3.out))
                  clear hr hg c2
                  have c2 := (B5.out.cell (p := ⟨g', o' + i, none⟩) hbW').trans X2.out
                  go_wp2_with fail
                  refine (fine_ok b2 _ w4 R5.out).mono ?_
                  rintro e w5 ⟨rfl, rfl⟩
                  obtain ⟨z, hz⟩ : ∃ z, z = (t.drop p).take j := ⟨_, rfl⟩
                  have hzl : z.length = j := by rw [hz, List.length_take, ← HD.out]; omega
                  obtain ⟨p2', hp2⟩ : ∃ p2, p2 = p + j := ⟨_, rfl⟩
                  have hcat : t.take p ++ z = t.take p2' := by rw [hz, hp2, List.take_add]
                  have hadd := str_add (t.take p) z (by rw [hzl, List.length_take]; omega)
                  rw [hcat] at hadd
                  have hple : p2' ≤ t.length := by have := HD'.out; omega
                  have hs3 : (ByteArray.mk (t.take p2').toArray).size = p2' := by simp [ByteArray.size]; omega
                  have hsl := slice_to t p2' hple
                  have E5 : Hid ((t.drop p).drop j = t.drop p2') := Lib.hid (by rw [hp2, List.drop_drop])
                  rw [E5.out] at R5
                  rw [← hz]
                  have PT := Lib.hid (put_take z j hzl p1 p2)
                  clear hz hzl hp2 hcat
                  go_wp2_with fail
                  refine (PT.out w4).mono ?_
                  rintro e w5 ⟨rfl, hb⟩
                  have R6 := Lib.hid (R5.out.below hb)
                  have B6 := Lib.hid (B5.out.trans (hb.mono B5.out.size))
                  clear hb
                  go_wp2
                  go_roundw
                  case rel => exact ⟨i + 1, p2', by go_num, by omega, by omega, hple, rfl, R6.out, B6.out⟩
                  case measure => simp [intOf]; omega
                · have NUM := Lib.hid (numS_no (t.drop p) y (by rw [← HD.out]; exact hh))
                  have hy : y < 1 ∨ (1 ≤ y ∧ 4 < y) ∨ (1 ≤ y ∧ y ≤ 4 ∧ (d : Int) < y) := by unfold okW at hh; omega
                  clear hh
                  go_wp2_with fail
                  refine (num_ok b2 _ y _ _ NUM.out wr R4.out).mono ?_
                  rintro e w4 ⟨rfl, hr, hg⟩
                  have R5 := Lib.hid hr
                  have B5 := Lib.hid (B4.out.trans (below_of_grownBy hg B4.out.size LE3.out))
                  clear hr hg c2
                  have c2 := (B5.out.cell (p := ⟨g', o' + i, none⟩) hbW').trans X2.out
                  go_wp2_with fail
                  refine (fine_ok b2 _ w4 R5.out).mono ?_
                  rintro e w5 ⟨rfl, rfl⟩
                  rcases hy with hy | ⟨y1, y2⟩ | ⟨y1, y2, y3⟩
                  all_goals
                    go_wp2_with fail
                    refine (awake_ok w4).mono ?_
                    rintro e w5 ⟨rfl, hb⟩
                    have B6 := Lib.hid (B5.out.trans (hb.mono B5.out.size))
                    clear hb
                    go_wp2
                    go_ret
                    exact ⟨rfl, B6.out⟩
              · have hend3 : n = i ∨ (i < n ∧ i = 100) := by omega
                clear hlt3
                rcases hend3 with rfl | ⟨l1, rfl⟩
                all_goals first
                  | omega
                  | (go_wp2_with fail
                     refine (awake_ok wr).mono ?_
                     rintro e w5 ⟨rfl, hb⟩
                     have B6 := Lib.hid (B4.out.trans (hb.mono B4.out.size))
                     clear hb
                     go_wp2
                     go_ret
                     exact ⟨rfl, B6.out⟩)
theorem octetBack_walk (v1 : Value) (L : List Nat) (v2 : Value) (K : List Int) (s : ByteArray) (W : World) (hL : NumsAt W v1 L) (hK : IntsAt W v2 K) (hs : s.size ≤ maxLen) : Calls Try.prog 5 #[v1, v2, .string s] W fun e w' => e = .returned (.bool true) ∧ Below W.heap.size W w' := by
  obtain ⟨a1, c1, rfl, h1, h2⟩ := hL
  by_cases hm : L.length ≤ 100
  · by_cases ht : s.size ≤ 1000
    · obtain ⟨a2, c2, rfl, h3, h4⟩ := hK
      obtain ⟨t, rfl⟩ : ∃ t : List UInt8, s = ⟨t.toArray⟩ := ⟨s.data.toList, by cases s; simp⟩
      exact back_in L a1 c1 K a2 c2 t W hm (by simpa [ByteArray.size] using ht) h1 h3 h2 h4
    · exact back_long a1 _ c1 v2 s W hs (Or.inr ⟨hm, by omega⟩)
  · exact back_long a1 _ c1 v2 s W hs (Or.inl (by omega))
end Go.Proofs.Ytoajgpmljelaiaa
