/- The contract of package palloc's Alloc; the calls' contracts by equations. Condition: the pool lies as New laid it; for Alloc the library's table reads as its initialiser lays it. -/
import Derived.Test.YtiohnhgoddfebaaDoorA6
namespace Go.Proofs.YtiohnhgoddfebaaDoor
open Go.RowKit
set_option maxRecDepth 100000

set_option maxHeartbeats 1000000 in
theorem alloc_any (X : PIx) (L : List Int) (R : Nat → Nat) (k : Int) (w : World) (h : PoolAt w X L R) (hT : LaidQ w) : Calls Tryd.prog 18 #[.pointer (some ⟨X.pb, 0, none⟩), .int .i64 k] w fun e w' => e = .returned (.tuple #[.int .i64 (allocA X.P R k).1, .int .i64 (allocA X.P R k).2]) ∧ Moves w w' X (allocL X.P R k L) (allocR X.P R k) := by
  have H := Lib.hid h
  have HT := Lib.hid hT
  cases hk : partB X.P k with
  | false =>
    rw [show allocA X.P R k = (0, 2) by simp [allocA, hk], show allocL X.P R k L = L by simp [allocL, hk], show allocR X.P R k = R by simp [allocR, hk]]
    have HK := Lib.hid hk
    clear h hT hk
    go_enter Tryd.func18, Tryd.ntmps18
    go_wp2_with (go_at_call 40; refine (of_bad X L R k _ H.out HK.out).mono ?_; rintro e w' ⟨rfl, hb⟩; have B := Lib.hid (hb.alloc hb.size (.cells #[.pointer none, .int .i64 0, .int .i64 0] 91)); clear hb)
    go_ret2
    exact ⟨rfl, Moves.stay H.out B.out⟩
  | true =>
    have h1 := (partB_iff _ _).1 hk
    rw [X.P_length] at h1
    obtain ⟨i, rfl⟩ := Int.eq_ofNat_of_zero_le h1.1
    have hiT : i < X.T.length := by omega
    obtain ⟨t, ht⟩ : ∃ t, X.T.getD i default = t := ⟨_, rfl⟩
    obtain ⟨s, f, m⟩ := t
    have hs := h.sets i hiT
    rw [ht] at hs
    have hP : X.P.getD i (0, 0) = (f, m) := by rw [PIx.P, P_get X.T i hiT, ht]
    have NB := Lib.hid hiT
    have TT := Lib.hid ht
    have S := Lib.hid hs
    cases hF : freeL (f, m) R with
    | nil =>
      rw [show allocA X.P R i = (0, 3) by simp only [allocA, hk, if_true, Int.toNat_natCast, hP, hF], show allocL X.P R i L = L by simp only [allocL, hk, if_true, Int.toNat_natCast, hP, hF], show allocR X.P R i = R by simp only [allocR, hk, if_true, Int.toNat_natCast, hP, hF]]
      have FF : Hid (∀ j, j < X.T.length → (if j = i then [] else freeL (X.T.getD j default).2 R) = freeL (X.T.getD j default).2 R) := Lib.hid (fun j _ => by
        by_cases e : j = i
        · subst e; rw [if_pos rfl, ht, hF]
        · rw [if_neg e])
      rw [hF] at S
      clear h hT hk h1 hiT ht hs hP hF
      go_enter Tryd.func18, Tryd.ntmps18
      go_wp2_with (first
        | (go_at_call 40; refine (of_ok X L R i s f m _ H.out NB.out TT.out).mono ?_; rintro e w1 ⟨rfl, hb⟩; have B := Lib.hid (hb.alloc hb.size (.cells #[.pointer (some ⟨s, 0, none⟩), .int .i64 (f : Int), .int .i64 (m : Int)] 91)); clear hb)
        | (go_at_call 41; refine (take_ok s [] _ (S.out.below B.out) (HT.out.below B.out)).mono ?_; rw [show takeA [] = (0, 4, []) from rfl]; rintro e w2 ⟨rfl, ht⟩; have T2 := Lib.hid ht; clear ht))
      go_ret2
      refine ⟨rfl, ((H.out.below B.out).toG.set i NB.out [] (by rw [TT.out]; exact T2.out)).toAt H.out.fit FF.out, (Only.below B.out).trans (Only.grown T2.out.grown (Or.inr (Or.inr ?_)))⟩
      have := mem_T NB.out
      rwa [TT.out] at this
    | cons x r =>
      rw [show allocA X.P R i = ((x : Int), 0) by simp only [allocA, hk, if_true, Int.toNat_natCast, hP, hF], show allocL X.P R i L = putRow L x zeros by simp only [allocL, hk, if_true, Int.toNat_natCast, hP, hF], show allocR X.P R i = upd R x 1 by simp only [allocR, hk, if_true, Int.toNat_natCast, hP, hF]]
      have hx := (mem_freeL (f, m) R x).1 (by rw [hF]; simp)
      have hi : i < X.P.length := by rw [X.P_length]; exact hiT
      have hin : inP (X.P.getD i (0, 0)) (x : Int) = true := by rw [hP, inP_iff]; simp only; omega
      have FF : Hid (FitP X.n X.P (upd R x 1) ∧ ∀ j, j < X.T.length → (if j = i then r else freeL (X.T.getD j default).2 R) = freeL (X.T.getD j default).2 (upd R x 1)) := Lib.hid
        ⟨h.fit.upd i x 1 hi hin (by omega), fun j hj => by
          by_cases e : j = i
          · subst e; rw [if_pos rfl, ht]; exact (freeL_take _ _ _ _ _ hF (by omega)).symm
          · rw [if_neg e, ← P_get X.T j hj]; exact (h.fit.free_far i x 1 hi hin j (by rw [X.P_length]; exact hj) e).symm⟩
      have XN : Hid (x < X.n) := Lib.hid (by
        have := (h.fit.rng i hi).2
        rw [hP] at this
        simp only at this hx
        omega)
      have hx2 : x < 1024 := by have := XN.out; have := h.fit.top; omega
      have MT := Lib.hid (mem_T hiT)
      rw [ht] at MT
      rw [hF] at S
      clear h hT hk h1 hiT ht hs hP hF hx hi hin
      go_enter Tryd.func18, Tryd.ntmps18
      go_wp2_with (first
        | (go_at_call 40; refine (of_ok X L R i s f m _ H.out NB.out TT.out).mono ?_; rintro e w1 ⟨rfl, hb⟩; have B := Lib.hid (hb.alloc hb.size (.cells #[.pointer (some ⟨s, 0, none⟩), .int .i64 (f : Int), .int .i64 (m : Int)] 91)); clear hb)
        | (go_at_call 41; refine (take_ok s (x :: r) _ (S.out.below B.out) (HT.out.below B.out)).mono ?_; rw [show takeA (x :: r) = ((x : Int), 0, r) from rfl]; rintro e w2 ⟨rfl, ht⟩
           have O2 := Lib.hid ((Only.below B.out).trans (Only.grown (B := X.blocks) ht.grown (Or.inr (Or.inr MT.out))))
           have G2 := Lib.hid ((H.out.below B.out).toG.set i NB.out r (by rw [TT.out]; exact ht))
           have c2 := G2.out.c2
           clear ht)
        | (at_mapUpdate; refine wpList_refs_put _ rfl _ _ _ rfl X.mb R rfl G2.out.refs x 1 rfl hx2 rfl (by omega) ?_; intro w3 hr3 hg
           have O3 := Lib.hid (O2.out.trans (Only.grown hg (Or.inr (Or.inl rfl))))
           have G3 := Lib.hid (G2.out.map hg hr3)
           have c0 := G3.out.c0
           clear hr3 hg c2)
        | (go_at_call 42; refine (zero_ok X.mp X.fb X.n x L _ G3.out.mem XN.out).mono ?_; rintro e w4 ⟨rfl, hp⟩
           have O4 := Lib.hid (O3.out.trans (Only.grown hp.grown (Or.inl rfl)))
           have G4 := Lib.hid (G3.out.mem_ hp)
           clear hp))
      go_ret2
      exact ⟨rfl, G4.out.toAt FF.out.1 FF.out.2, O4.out⟩
theorem alloc_is {X : PIx} {R R' : Nat → Nat} {L L' : List Int} {k a e : Int} (ha : allocA X.P R k = (a, e)) (hl : allocL X.P R k L = L') (hr : allocR X.P R k = R') {w : World} (h : PoolAt w X L R) (hT : LaidQ w) : Calls Tryd.prog 18 #[.pointer (some ⟨X.pb, 0, none⟩), .int .i64 k] w fun e' w' => e' = .returned (.tuple #[.int .i64 a, .int .i64 e]) ∧ Moves w w' X L' R' := by
  have := alloc_any X L R k w h hT
  rwa [ha, hl, hr] at this
theorem share_is {X : PIx} {R R' : Nat → Nat} {L : List Int} {x e : Int} (he : shareE X.P R x = e) (hr : shareR X.P R x = R') {w : World} (h : PoolAt w X L R) (hx : I64 x) : Calls Tryd.prog 20 #[.pointer (some ⟨X.pb, 0, none⟩), .int .i64 x] w fun e' w' => e' = .returned (.int .i64 e) ∧ Moves w w' X L R' := by
  subst he hr; exact share_any X L R x w h hx
theorem free_is {X : PIx} {R R' : Nat → Nat} {L : List Int} {x e : Int} (he : heldE X.P R x = e) (hr : freeR X.P R x = R') {w : World} (h : PoolAt w X L R) (hx : I64 x) : Calls Tryd.prog 21 #[.pointer (some ⟨X.pb, 0, none⟩), .int .i64 x] w fun e' w' => e' = .returned (.int .i64 e) ∧ Moves w w' X L R' := by
  subst he hr; exact free_any X L R x w h hx
end Go.Proofs.YtiohnhgoddfebaaDoor
