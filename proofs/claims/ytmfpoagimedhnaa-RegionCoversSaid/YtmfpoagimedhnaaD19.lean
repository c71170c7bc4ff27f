/- The walk of the law RegionCheck. Condition: the slice lies in memory. -/
import Derived.Test.YtmfpoagimedhnaaD18
import Derived.Test.YtmfpoagimedhnaaD17
namespace Go.Proofs.Ytmfpoagimedhnaa
open Go.RowKit Go.Maps
set_option maxRecDepth 100000

/-- A slice of areas that came in. -/
def ArgAr (w : World) (v : Value) (L : List Ar) : Prop := ∃ a c, v = .slice a L.length c ∧ (a = none → c = 0) ∧ (∀ x ∈ L, WideD x) ∧ (L = [] ∨ ∃ b o, a = some ⟨b, o, none⟩ ∧ b < w.heap.size ∧ ∀ i, i < L.length → CellsD w b (o + i * 3) (L.getD i default))
theorem ArgAr.near {w : World} {v : Value} {L : List Ar} (h : ArgAr w v L) (hl : L.length ≤ 100) : ArAt w v L := by
  obtain ⟨a, c, e, -, hw, hc⟩ := h
  exact ⟨a, c, e, by omega, hw, hc⟩
theorem ArgAr.form {w : World} {v : Value} {L : List Ar} (h : ArgAr w v L) : ∃ a c, v = .slice a L.length c := by
  obtain ⟨a, c, e, _⟩ := h
  exact ⟨a, c, e⟩
theorem regionCheck_far (n c : Nat) (a : Option Addr) (page f m : Int) (W : World) (hn : 100 < n) : Calls Try.prog 3 #[.slice a n c, .int .i64 page, .int .i64 f, .int .i64 m] W fun e w' => e = .returned (.bool true) ∧ Below W.heap.size W w' := by
  go_enter Try.func3, Try.ntmps3
  go_wp2_with (go_at_call 10; refine (awake14 _).mono ?_; rintro e w2 ⟨rfl, hb⟩; have B := Lib.hid hb; clear hb)
  go_ret
  exact ⟨rfl, B.out⟩
set_option maxHeartbeats 4000000 in
theorem regionCheck_near (L : List Ar) (v : Value) (page f m : Int) (hf : I64 f) (hm : I64 m) (W : World) (hl : L.length ≤ 100) (h : ArAt W v L) : Calls Try.prog 3 #[v, .int .i64 page, .int .i64 f, .int .i64 m] W fun e w' => e = .returned (.bool true) ∧ Below W.heap.size W w' := by
  obtain ⟨k, hk⟩ := chk_ex L
  obtain ⟨o, ho⟩ := find_exD L page
  obtain ⟨cv, hcv⟩ := covers_exD L f m
  obtain ⟨pg, hpg⟩ := pages_exD L
  have H := Lib.hid h
  have C1 := Lib.hid (fun V (hV : ArAt V v L) => check_okD L v V hV hk)
  have C2 := Lib.hid (fun V (hV : ArAt V v L) => rcheck_okD L v V hV hk)
  have F1 := Lib.hid (fun V (hV : ArAt V v L) => Find_okD L v page V hV ho)
  have F2 := Lib.hid (fun V (hV : ArAt V v L) => rfind_okD L v page V hV ho)
  have V1 := Lib.hid (fun V (hV : ArAt V v L) => Covers_okD L v f m hf hm V hV hcv)
  have V2 := Lib.hid (fun V (hV : ArAt V v L) => rcovers_okD L v f m hf hm V hV hcv)
  have P1 := Lib.hid (fun V (hV : ArAt V v L) => Pages_okD L v V hV hpg)
  have P2 := Lib.hid (fun V (hV : ArAt V v L) => rpages_okD L v V hV hpg)
  obtain ⟨a, c, rfl⟩ := h.form
  obtain ⟨n, hn⟩ : ∃ n, n = L.length := ⟨_, rfl⟩
  rw [← hn] at H C1 C2 F1 F2 V1 V2 P1 P2 hl ⊢
  clear hk ho hcv hpg h hn hf hm
  generalize (o == some true) = u1 at F1 F2
  generalize o.isSome = u2 at F1 F2
  go_enter Try.func3, Try.ntmps3
  go_wp2_with fail
  refine (F1.out _ H.out).mono ?_
  rintro e w1 ⟨rfl, hb⟩
  have B1 := Lib.hid hb
  clear hb
  go_wp2_with fail
  refine (F2.out _ (H.out.below B1.out)).mono ?_
  rintro e w2 ⟨rfl, hb⟩
  have B2 := Lib.hid (B1.out.trans (hb.mono B1.out.size))
  clear hb
  go_wp2_with (first
    | (go_at_call 13; refine (C1.out _ (H.out.below B2.out)).mono ?_; rintro e w3 ⟨rfl, hb⟩; have B3 := Lib.hid (B2.out.trans (hb.mono B2.out.size)); clear hb)
    | (go_at_call 14; refine (C2.out _ (H.out.below B3.out)).mono ?_; rintro e w4 ⟨rfl, hb⟩; have B4 := Lib.hid (B3.out.trans (hb.mono B3.out.size)); clear hb)
    | (go_at_call 15; refine (V1.out _ (H.out.below B4.out)).mono ?_; rintro e w5 ⟨rfl, hb⟩; have B5 := Lib.hid (B4.out.trans (hb.mono B4.out.size)); clear hb)
    | (go_at_call 16; refine (V2.out _ (H.out.below B5.out)).mono ?_; rintro e w6 ⟨rfl, hb⟩; have B6 := Lib.hid (B5.out.trans (hb.mono B5.out.size)); clear hb)
    | (go_at_call 17; refine (P1.out _ (H.out.below B6.out)).mono ?_; rintro e w7 ⟨rfl, hb⟩; have B7 := Lib.hid (B6.out.trans (hb.mono B6.out.size)); clear hb)
    | (go_at_call 18; refine (P2.out _ (H.out.below B7.out)).mono ?_; rintro e w8 ⟨rfl, hb⟩; have B8 := Lib.hid (B7.out.trans (hb.mono B7.out.size)); clear hb)
    | (go_at_call 10; refine (awake14 _).mono ?_; rintro e w9 ⟨rfl, hb⟩; have B9 := Lib.hid (B8.out.trans (hb.mono B8.out.size)); clear hb))
  go_ret
  exact ⟨rfl, B9.out⟩
theorem regionCheck_walk (v : Value) (L : List Ar) (page f m : Int) (W : World) (h : ArgAr W v L) (_hp : I64 page) (hf : I64 f) (hm : I64 m) : Calls Try.prog 3 #[v, .int .i64 page, .int .i64 f, .int .i64 m] W fun e w' => e = .returned (.bool true) ∧ Below W.heap.size W w' := by
  by_cases hl : L.length ≤ 100
  · exact regionCheck_near L v page f m hf hm W hl (h.near hl)
  · obtain ⟨a, c, rfl⟩ := h.form
    exact regionCheck_far _ c a page f m W (by omega)
end Go.Proofs.Ytmfpoagimedhnaa
