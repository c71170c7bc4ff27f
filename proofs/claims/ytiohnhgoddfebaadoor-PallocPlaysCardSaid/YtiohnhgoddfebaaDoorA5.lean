/- The contracts of package palloc's held, Refs, Left, Share, Free, Alloc. Condition: the pool lies as New laid it, or there is none, or nobody made it; for Alloc the library's table reads as its initialiser lays it. -/
import Derived.Test.YtiohnhgoddfebaaDoorA4
namespace Go.Proofs.YtiohnhgoddfebaaDoor
open Go.RowKit
set_option maxRecDepth 100000

abbrev I64 (x : Int) : Prop := -9223372036854775808 ≤ x ∧ x ≤ 9223372036854775807
theorem owner_is {X : PIx} {x a e : Int} (ho : ownA X.P x = (a, e)) {L : List Int} {R : Nat → Nat} {w : World} (h : PoolAt w X L R) (hx : I64 x) : Calls Tryd.prog 19 #[.pointer (some ⟨X.pb, 0, none⟩), .int .i64 x] w fun e' w' => e' = .returned (.tuple #[.int .i64 a, .int .i64 e]) ∧ Below w.heap.size w w' := by
  have := owner_any X L R x w h hx
  rwa [ho] at this
theorem held_no (p : Option Addr) (x : Int) (w : World) (h : NoPool w p) : Calls Tryd.prog 44 #[.pointer p, .int .i64 x] w fun e w' => e = .returned (.tuple #[.int .i64 0, .int .i64 1]) ∧ w = w' := by
  have H := Lib.hid h
  clear h
  go_enter Tryd.func44, Tryd.ntmps44
  go_wp2_with (go_at_call 19; refine (owner_no p x _ H.out).mono ?_; rintro e w' ⟨rfl, rfl⟩)
  go_ret2
  exact ⟨rfl, rfl⟩
/-- held: whose range the frame is in, if it is held. -/
theorem held_any (X : PIx) (L : List Int) (R : Nat → Nat) (x : Int) (w : World) (h : PoolAt w X L R) (hx : I64 x) : Calls Tryd.prog 44 #[.pointer (some ⟨X.pb, 0, none⟩), .int .i64 x] w fun e w' => e = .returned (.tuple #[.int .i64 (if heldE X.P R x = 0 then (ownA X.P x).1 else 0), .int .i64 (heldE X.P R x)]) ∧ Below w.heap.size w w' := by
  have H := Lib.hid h
  rcases frame_ways h.fit x with ⟨ho, he, _⟩ | ⟨y, i, rfl, hy, hi, ho, _, hr, hrI, he⟩ | ⟨y, i, rfl, hy, hi, ho, _, hr, hr2, hrI, he⟩
  · rw [he, ho]
    have HO := Lib.hid ho
    clear h ho he
    go_enter Tryd.func44, Tryd.ntmps44
    go_wp2_with (go_at_call 19; refine (owner_is HO.out H.out hx).mono ?_; rintro e w' ⟨rfl, hb⟩; have B := Lib.hid hb; clear hb)
    go_ret2
    exact ⟨rfl, B.out⟩
  · rw [he, ho]
    have HO := Lib.hid ho
    have HR := Lib.hid hrI
    clear h ho he hrI hr
    go_enter Tryd.func44, Tryd.ntmps44
    go_wp2_with (first
      | (go_at_call 19; refine (owner_is HO.out H.out hx).mono ?_; rintro e w' ⟨rfl, hb⟩; have B := Lib.hid hb; have H1 := Lib.hid (H.out.below hb); have c2 := (H.out.below hb).c2; clear hb)
      | (at_lookup; refine wpList_refs_look _ rfl _ _ rfl X.mb R rfl H1.out.refs _ 0 rfl hx HR.out ?_))
    go_ret2
    exact ⟨rfl, B.out⟩
  · rw [he, ho]
    have HO := Lib.hid ho
    have HR := Lib.hid hrI
    clear h ho he hrI
    generalize R y = q at *
    go_enter Tryd.func44, Tryd.ntmps44
    go_wp2_with (first
      | (go_at_call 19; refine (owner_is HO.out H.out hx).mono ?_; rintro e w' ⟨rfl, hb⟩; have B := Lib.hid hb; have H1 := Lib.hid (H.out.below hb); have c2 := (H.out.below hb).c2; clear hb)
      | (at_lookup; refine wpList_refs_look _ rfl _ _ rfl X.mb R rfl H1.out.refs _ (q : Int) rfl hx HR.out ?_))
    go_ret2
    exact ⟨rfl, B.out⟩
theorem held_is {X : PIx} {R : Nat → Nat} {x a e : Int} (he : heldE X.P R x = e) (ha : (if e = 0 then (ownA X.P x).1 else 0) = a) {L : List Int} {w : World} (h : PoolAt w X L R) (hx : I64 x) : Calls Tryd.prog 44 #[.pointer (some ⟨X.pb, 0, none⟩), .int .i64 x] w fun e' w' => e' = .returned (.tuple #[.int .i64 a, .int .i64 e]) ∧ Below w.heap.size w w' := by
  have := held_any X L R x w h hx
  rwa [he, ha] at this

theorem refs_no (p : Option Addr) (x : Int) (w : World) (h : NoPool w p) : Calls Tryd.prog 22 #[.pointer p, .int .i64 x] w fun e w' => e = .returned (.int .i64 0) ∧ w = w' := by
  have H := Lib.hid h
  clear h
  go_enter Tryd.func22, Tryd.ntmps22
  go_wp2_with (go_at_call 43; refine (pool_no p _ H.out).mono ?_; rintro e w' ⟨rfl, rfl⟩)
  go_ret
  exact ⟨rfl, rfl⟩
theorem refs_is {X : PIx} {R : Nat → Nat} {x c : Int} (hc : refI R x = c) {L : List Int} {w : World} (h : PoolAt w X L R) (hx : I64 x) : Calls Tryd.prog 22 #[.pointer (some ⟨X.pb, 0, none⟩), .int .i64 x] w fun e w' => e = .returned (.int .i64 c) ∧ w = w' := by
  have H := Lib.hid h
  have HR := Lib.hid hc
  have c2 := h.c2
  clear h hc
  go_enter Tryd.func22, Tryd.ntmps22
  go_wp2_with (first
    | (go_at_call 43; refine (pool_there _ _ _ H.out.c0).mono ?_; rintro e w' ⟨rfl, rfl⟩)
    | (at_lookup; refine wpList_refs_look _ rfl _ _ rfl X.mb R rfl H.out.refs _ c rfl hx HR.out ?_))
  go_ret
  exact ⟨rfl, rfl⟩

theorem len_nil_set (w : World) : Calls Tryd.prog 46 #[.pointer none] w fun e w' => e = .returned (.int .i64 0) ∧ w = w' := len_no none w (Or.inl rfl)
theorem left_no (p : Option Addr) (k : Int) (w : World) (h : NoPool w p) : Calls Tryd.prog 23 #[.pointer p, .int .i64 k] w fun e w' => e = .returned (.int .i64 0) ∧ Below w.heap.size w w' := by
  have H := Lib.hid h
  clear h
  go_enter Tryd.func23, Tryd.ntmps23
  go_wp2_with (go_at_call 40; refine (of_no p k _ H.out).mono ?_; rintro e w' ⟨rfl, hb⟩; have B := Lib.hid (hb.alloc hb.size (.cells #[.pointer none, .int .i64 0, .int .i64 0] 91)); clear hb)
  go_ret
  exact ⟨rfl, B.out⟩
theorem left_any (X : PIx) (L : List Int) (R : Nat → Nat) (k : Int) (w : World) (h : PoolAt w X L R) : Calls Tryd.prog 23 #[.pointer (some ⟨X.pb, 0, none⟩), .int .i64 k] w fun e w' => e = .returned (.int .i64 (leftA X.P R k : Int)) ∧ Below w.heap.size w w' := by
  have H := Lib.hid h
  cases hk : partB X.P k with
  | false =>
    have E : Hid (leftA X.P R k = 0) := Lib.hid (by simp [leftA, hk])
    have HK := Lib.hid hk
    clear h hk
    go_enter Tryd.func23, Tryd.ntmps23
    go_wp2_with (go_at_call 40; refine (of_bad X L R k _ H.out HK.out).mono ?_; rintro e w' ⟨rfl, hb⟩; have B := Lib.hid (hb.alloc hb.size (.cells #[.pointer none, .int .i64 0, .int .i64 0] 91)); clear hb)
    go_ret
    exact ⟨by rw [E.out]; rfl, B.out⟩
  | true =>
    have h1 := (partB_iff _ _).1 hk
    rw [X.P_length] at h1
    obtain ⟨k, rfl⟩ := Int.eq_ofNat_of_zero_le h1.1
    have hkT : k < X.T.length := by omega
    obtain ⟨t, ht⟩ : ∃ t, X.T.getD k default = t := ⟨_, rfl⟩
    obtain ⟨s, f, m⟩ := t
    have hs := h.sets k hkT
    rw [ht] at hs
    obtain ⟨q, hq⟩ : ∃ q, (freeL (f, m) R).length = q := ⟨_, rfl⟩
    have E : Hid (leftA X.P R (k : Int) = q) := Lib.hid (by
      rw [leftA, hk, if_pos rfl, Int.toNat_natCast, PIx.P, P_get X.T k hkT, ht]; exact hq)
    have HK := Lib.hid hkT
    have HT := Lib.hid ht
    have HS := Lib.hid hs
    have HQ := Lib.hid hq
    clear h hk h1 hkT ht hs hq
    go_enter Tryd.func23, Tryd.ntmps23
    go_wp2_with (first
      | (go_at_call 40; refine (of_ok X L R k s f m _ H.out HK.out HT.out).mono ?_; rintro e w' ⟨rfl, hb⟩; have B := Lib.hid (hb.alloc hb.size (.cells #[.pointer (some ⟨s, 0, none⟩), .int .i64 (f : Int), .int .i64 (m : Int)] 91)); clear hb)
      | (go_at_call 46; refine (len_set _ _ _ (HS.out.below B.out)).mono ?_; rw [HQ.out]; rintro e w' ⟨rfl, rfl⟩))
    go_ret
    exact ⟨by rw [E.out]; rfl, B.out⟩
theorem left_is {X : PIx} {R : Nat → Nat} {k : Int} {c : Nat} (hc : leftA X.P R k = c) {L : List Int} {w : World} (h : PoolAt w X L R) : Calls Tryd.prog 23 #[.pointer (some ⟨X.pb, 0, none⟩), .int .i64 k] w fun e w' => e = .returned (.int .i64 (c : Int)) ∧ Below w.heap.size w w' := by
  have := left_any X L R k w h
  rwa [hc] at this
end Go.Proofs.YtiohnhgoddfebaaDoor
