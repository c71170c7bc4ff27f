/- The contracts of package queue's New, Push, Head, Pop, Turn. Condition: the queue lies as New laid it, or there is none, or nobody made it. -/
import Derived.Test.YtmkoflmhopefhaaV2
namespace Go.Proofs.Ytmkoflmhopefhaa
open Go.RowKit
set_option maxRecDepth 100000

/-- A queue has become another row, and nothing else that was there has changed. -/
structure ToV (w w' : World) (b : Nat) (L : List Int) : Prop where
  st : QAt w' b L
  grown : w.grownBy w' (some b)
theorem ToV.stay {w w' : World} {b : Nat} {L : List Int} (h : QAt w b L) (hb : Below w.heap.size w w') : ToV w w' b L := ⟨h.below hb, grownBy_of_below hb _⟩
theorem ToV.next {w w1 w' : World} {b : Nat} {L K : List Int} (h : ToV w w1 b L) (k : ToV w1 w' b K) : ToV w w' b K := ⟨k.st, grownBy_trans h.grown k.grown⟩
theorem ToV.below {B : Nat} {a w w' : World} {b : Nat} {L : List Int} (h : Below B a w) (k : ToV w w' b L) (hw : B ≤ w.heap.size) (hb : B ≤ b) : Below B a w' := h.trans (below_of_grownBy k.grown hw hb)
theorem below_drawsV (w : World) (n : Nat) : Below w.heap.size w (w.drewN n) := below_drewN (Below.refl _ _) _

theorem build_queV : (Try.prog.built 38 [(3, .bool true)]) = some (queV [0, 0, 0, 0, 0, 0, 0, 0] 0 0 true) := by kernel_rfl
theorem wpList_build_queV {ops : Array Oper} {rest : List Oper} {op : Oper} {a : Act} {w : World} {Q : Exit → Act → World → Prop} (hgd : op.guard = none) (ho : op.op = .build 38 #[(3, .const (.bool true))])
    (h : wpList Try.prog ops Q rest (a.put op.dst (.agg (queV [0, 0, 0, 0, 0, 0, 0, 0] 0 0 true))) w) : wpList Try.prog ops Q (op :: rest) a w := by
  have hb := build_queV
  have e : (Array.map (fun (p : Nat × Operand) => (p.1, a.eval p.2)) #[(3, .const (.bool true))]).toList = [(3, .bool true)] := by simp [go_sem]
  refine wpList_build hgd 38 _ ho (by rw [e, hb]; rfl) ?_
  rw [e, hb]
  exact h
theorem new_okV (w : World) : Calls Try.prog 9 #[] w fun e w' => ∃ b, e = .returned (.pointer (some ⟨b, 0, none⟩)) ∧ QAt w' b [] ∧ w.heap.size ≤ b ∧ Below w.heap.size w w' := by
  go_enter Try.func9, Try.ntmps9
  go_wp2_with (refine wpList_build_queV rfl rfl ?_)
  go_ret
  refine ⟨_, rfl, ⟨GoodV.nil, [0, 0, 0, 0, 0, 0, 0, 0], 0, ⟨rfl, by omega, by simp, fun j hj => absurd hj (Nat.not_lt_zero _)⟩, ⟨rfl, by omega, by simp, heap_alloc_new w _⟩⟩, Nat.le_refl _, (Below.refl _ _).alloc (Nat.le_refl _) _⟩

theorem push_noV (p : Option Addr) (n : Int) (w : World) (h : NoQ w p) : Calls Try.prog 15 #[.pointer p, .int .i64 n] w fun e w' => e = .returned (.int .i64 1) ∧ w = w' := by
  have H := Lib.hid h
  clear h
  go_enter Try.func15, Try.ntmps15
  go_wp2_with (go_at_call 24; refine (find_no p n _ H.out).mono ?_; rintro e w' ⟨rfl, rfl⟩)
  go_ret
  exact ⟨rfl, rfl⟩
set_option maxHeartbeats 1000000 in
theorem push_okV (b : Nat) (L : List Int) (n : Int) (w : World) (q : QAt w b L) : Calls Try.prog 15 #[.pointer (some ⟨b, 0, none⟩), .int .i64 n] w fun e w' => e = .returned (.int .i64 (pushE L n)) ∧ ToV w w' b (pushL L n) := by
  have Q := Lib.hid q
  obtain ⟨A, h, r, B⟩ := q.ex
  clear q
  rcases numV_ways n with ⟨hn, hb⟩ | ⟨hn, hb⟩
  · have E : Hid (pushE L n = 2 ∧ pushL L n = L) := Lib.hid (by simp [pushE, pushL, hn])
    have FB := Lib.hid (find_bad b n w B.made hb)
    rw [E.out.1, E.out.2]
    clear r B hn hb
    go_enter Try.func15, Try.ntmps15
    go_wp2_with (go_at_call 24; refine FB.out.mono ?_; rintro e w' ⟨rfl, rfl⟩)
    go_ret
    exact ⟨rfl, ToV.stay Q.out (Below.refl _ _)⟩
  · have FO := Lib.hid (find_ok b A h L n w r B hb)
    have R := Lib.hid r
    obtain ⟨m, hm⟩ : ∃ m, m = L.length := ⟨_, rfl⟩
    rw [← hm] at B
    have BX := Lib.hid B
    have HM := Lib.hid hm
    have HN := Lib.hid hn
    clear r B hn hb hm
    go_enter Try.func15, Try.ntmps15
    go_wp2_with fail
    refine FO.out.mono ?_
    rintro e w' ⟨k, rfl, hf, q, rfl⟩
    have F := Lib.hid hf
    have cm := (BX.out.drewN q).howMany
    have hkm : k ≤ m := by have := hf.1; have := HM.out; omega
    clear hf
    by_cases hlt : k < m
    · have hin := F.out.there (by have := HM.out; omega)
      have E : Hid (pushE L n = 5 ∧ pushL L n = L) := Lib.hid (by simp [pushE, pushL, HN.out, hin])
      clear hin
      go_wp2
      go_ret
      exact ⟨by rw [E.out.1]; rfl, by rw [E.out.2]; exact ToV.stay Q.out (below_drawsV w q)⟩
    · have hin := F.out.none (by have := HM.out; omega)
      have E : Hid (pushE L n = 0 ∧ pushL L n = L ++ [n]) := Lib.hid (by simp [pushE, pushL, HN.out, hin])
      have hroom := Q.out.good.room HN.out hin
      have hg := Lib.hid (Q.out.good.snoc HN.out hin)
      have hm8 : m < 8 := by have := HM.out; omega
      obtain rfl : k = m := by omega
      obtain ⟨z, hz⟩ : ∃ z, (h + k) % 8 = z := ⟨_, rfl⟩
      have hz8 : z < 8 := by omega
      have AT := Lib.hid (at_okV b h k z (w.drewN q) (BX.out.drewN q).head BX.out.top (by omega) hz)
      have HZ := Lib.hid hz
      clear hin hz
      have n1 : ¬ z = 9 := by omega
      have n2 : ¬ 9 = z := by omega
      go_wp2_with (go_at_call 23; refine AT.out.mono ?_; rintro e w' ⟨rfl, q2, rfl⟩; have cz := (BX.out.drewN (q + q2)).at_ z hz8; have cm := (BX.out.drewN (q + q2)).howMany; have fz := (BX.out.drewN (q + q2)).free z; have f9 := (BX.out.drewN (q + q2)).free 9)
      go_ret
      rw [E.out.1, E.out.2]
      refine ⟨rfl, ⟨hg.out, _, h, R.out.push hroom n, ?_⟩, ?_⟩
      · have B2 := ((BX.out.drewN (q + q2)).set z hz8 n).setMany (k + 1) (by omega)
        rw [List.length_append, List.length_singleton, ← HM.out, HZ.out]
        exact B2
      · exact grownBy_from (b := w.drewN (q + q2)) (grownBy_trans (grownBy_setCell _ _ _ _) (grownBy_setCell _ _ _ _)) rfl rfl rfl rfl

theorem head_noV (p : Option Addr) (w : World) (h : NoQ w p) : Calls Try.prog 11 #[.pointer p] w fun e w' => e = .returned (.tuple #[.int .i64 0, .bool false]) ∧ w = w' := by
  have H := Lib.hid h
  clear h
  go_enter Try.func11, Try.ntmps11
  go_wp2_with (go_at_call 22; refine (isThere_noV p _ H.out).mono ?_; rintro e w' ⟨rfl, rfl⟩)
  go_ret2
  exact ⟨rfl, rfl⟩
set_option maxHeartbeats 1000000 in
theorem head_okV (b : Nat) (L : List Int) (w : World) (q : QAt w b L) : Calls Try.prog 11 #[.pointer (some ⟨b, 0, none⟩)] w fun e w' => e = .returned (.tuple #[.int .i64 (headA L).1, .bool (headA L).2]) ∧ ∃ m, w' = w.drewN m := by
  obtain ⟨A, h, r, B⟩ := q.ex
  clear q
  cases L with
  | nil =>
    have BX := Lib.hid B
    have cm : w.cell? ⟨b, 9, none⟩ = some (.int .i64 0) := B.howMany
    clear r B
    go_enter Try.func11, Try.ntmps11
    go_wp2_with (go_at_call 22; refine (isThere_someV b true _ BX.out.made).mono ?_; rintro e w' ⟨rfl, rfl⟩)
    go_ret2
    exact ⟨rfl, 0, rfl⟩
  | cons x l =>
    have BX := Lib.hid B
    obtain ⟨m, hm⟩ : ∃ m, (x :: l).length = m := ⟨_, rfl⟩
    have hm0 : 0 < m := by rw [← hm]; simp
    rw [hm] at BX
    have hne : ((m : Int) == 0) = false := by simp; omega
    have cm := BX.out.howMany
    have hx := r.first
    have CX : Hid (∀ q, (w.drewN q).cell? ⟨b, h, none⟩ = some (.int .i64 x)) := Lib.hid (fun q => by rw [(BX.out.drewN q).at_ h BX.out.top, hx])
    have AT := Lib.hid (at_okV b h 0 h w BX.out.head BX.out.top (by omega) (by have := BX.out.top; omega))
    clear r B hx hm
    go_enter Try.func11, Try.ntmps11
    go_wp2_with (first
      | (go_at_call 22; refine (isThere_someV b true _ BX.out.made).mono ?_; rintro e w' ⟨rfl, rfl⟩)
      | (go_at_call 23; refine AT.out.mono ?_; rintro e w' ⟨rfl, q2, rfl⟩; have cx := CX.out q2))
    go_ret2
    exact ⟨rfl, _, rfl⟩
theorem head_isV {b : Nat} {L : List Int} {n : Int} {k : Bool} (h1 : headA L = (n, k)) {w : World} (q : QAt w b L) : Calls Try.prog 11 #[.pointer (some ⟨b, 0, none⟩)] w fun e w' => e = .returned (.tuple #[.int .i64 n, .bool k]) ∧ ∃ m, w' = w.drewN m := by
  have := head_okV b L w q
  rwa [h1] at this

theorem pop_noV (p : Option Addr) (w : World) (h : NoQ w p) : Calls Try.prog 14 #[.pointer p] w fun e w' => e = .returned (.tuple #[.int .i64 0, .int .i64 1]) ∧ w = w' := by
  have H := Lib.hid h
  clear h
  go_enter Try.func14, Try.ntmps14
  go_wp2_with (go_at_call 22; refine (isThere_noV p _ H.out).mono ?_; rintro e w' ⟨rfl, rfl⟩)
  go_ret2
  exact ⟨rfl, rfl⟩
set_option maxHeartbeats 1000000 in
theorem pop_okV (b : Nat) (L : List Int) (w : World) (q : QAt w b L) : Calls Try.prog 14 #[.pointer (some ⟨b, 0, none⟩)] w fun e w' => e = .returned (.tuple #[.int .i64 (popA L).1, .int .i64 (popA L).2.1]) ∧ ToV w w' b (popA L).2.2 := by
  have Q := Lib.hid q
  obtain ⟨A, h, r, B⟩ := q.ex
  have BX := Lib.hid B
  have HD := Lib.hid (head_okV b L w q)
  clear B q
  cases L with
  | nil =>
    clear r
    simp only [headA, popA] at HD ⊢
    go_enter Try.func14, Try.ntmps14
    go_wp2_with (first
      | (go_at_call 22; refine (isThere_someV b true _ BX.out.made).mono ?_; rintro e w' ⟨rfl, rfl⟩)
      | (go_at_call 11; refine HD.out.mono ?_; rintro e w' ⟨rfl, q, rfl⟩))
    go_ret2
    exact ⟨rfl, ToV.stay Q.out (below_drawsV w _)⟩
  | cons x l =>
    simp only [headA, popA] at HD ⊢
    have R := Lib.hid r.pop
    have hg := Lib.hid Q.out.good.tail
    obtain ⟨m, hm⟩ : ∃ m, l.length = m := ⟨_, rfl⟩
    rw [List.length_cons, hm] at BX
    have hm8 : m + 1 ≤ 8 := BX.out.many
    have hh := BX.out.top
    obtain ⟨z, hz⟩ : ∃ z, (h + 1) % 8 = z := ⟨_, rfl⟩
    have hz8 : z < 8 := by omega
    have ht : ((h : Int) + 1).tmod 8 = (z : Int) := by rw [Int.tmod_eq_emod_of_nonneg (by omega)]; omega
    have HM := Lib.hid hm
    have HZ := Lib.hid hz
    clear r hm hz
    go_enter Try.func14, Try.ntmps14
    go_wp2_with (first
      | (go_at_call 22; refine (isThere_someV b true _ BX.out.made).mono ?_; rintro e w' ⟨rfl, rfl⟩)
      | (go_at_call 11; refine HD.out.mono ?_; rintro e w' ⟨rfl, q, rfl⟩; have ch := (BX.out.drewN q).head; have cm : (w.drewN q).cell? ⟨b, 9, none⟩ = some (.int .i64 ((m : Int) + 1)) := (BX.out.drewN q).howMany; have f8 := (BX.out.drewN q).free 8; have f9 := (BX.out.drewN q).free 9))
    go_ret2
    refine ⟨rfl, ⟨hg.out, A, z, by rw [← HZ.out]; exact R.out, ?_⟩, ?_⟩
    · have B2 := ((BX.out.drewN q).setHead z hz8).setMany m (by omega)
      rw [HM.out]
      exact B2
    · exact grownBy_from (b := w.drewN q) (grownBy_trans (grownBy_setCell _ _ _ _) (grownBy_setCell _ _ _ _)) rfl rfl rfl rfl
theorem pop_isV {b : Nat} {L K : List Int} {n k : Int} (h1 : popA L = (n, k, K)) {w : World} (q : QAt w b L) : Calls Try.prog 14 #[.pointer (some ⟨b, 0, none⟩)] w fun e w' => e = .returned (.tuple #[.int .i64 n, .int .i64 k]) ∧ ToV w w' b K := by
  have := pop_okV b L w q
  rwa [h1] at this
theorem push_isV {b : Nat} {L K : List Int} {n k : Int} (h1 : pushE L n = k) (h2 : pushL L n = K) {w : World} (q : QAt w b L) : Calls Try.prog 15 #[.pointer (some ⟨b, 0, none⟩), .int .i64 n] w fun e w' => e = .returned (.int .i64 k) ∧ ToV w w' b K := by
  subst h1 h2; exact push_okV b L n w q

theorem turn_noV (p : Option Addr) (w : World) (h : NoQ w p) : Calls Try.prog 17 #[.pointer p] w fun e w' => e = .returned (.int .i64 1) ∧ w = w' := by
  have H := Lib.hid h
  clear h
  go_enter Try.func17, Try.ntmps17
  go_wp2_with (go_at_call 14; refine (pop_noV p _ H.out).mono ?_; rintro e w' ⟨rfl, rfl⟩)
  go_ret
  exact ⟨rfl, rfl⟩
theorem turn_okV (b : Nat) (L : List Int) (w : World) (q : QAt w b L) : Calls Try.prog 17 #[.pointer (some ⟨b, 0, none⟩)] w fun e w' => e = .returned (.int .i64 (turnA L).1) ∧ ToV w w' b (turnA L).2 := by
  have Q := Lib.hid q
  clear q
  cases L with
  | nil =>
    simp only [turnA]
    go_enter Try.func17, Try.ntmps17
    go_wp2_with (go_at_call 14; refine (pop_isV (show popA [] = (0, 4, []) from rfl) Q.out).mono ?_; rintro e w' ⟨rfl, ht⟩; have T := Lib.hid ht; clear ht)
    go_ret
    exact ⟨rfl, T.out⟩
  | cons x l =>
    simp only [turnA]
    have hn := Q.out.good.isNum (x := x) (by simp)
    have E : Hid (pushE l x = 0 ∧ pushL l x = l ++ [x]) := Lib.hid (by simp [pushE, pushL, hn, Q.out.good.head])
    clear hn
    go_enter Try.func17, Try.ntmps17
    go_wp2_with (first
      | (go_at_call 14; refine (pop_isV (show popA (x :: l) = (x, 0, l) from rfl) Q.out).mono ?_; rintro e w' ⟨rfl, ht⟩; have T := Lib.hid ht; clear ht)
      | (go_at_call 15; refine (push_isV E.out.1 E.out.2 T.out.st).mono ?_; rintro e w2 ⟨rfl, ht⟩; have T2 := Lib.hid (T.out.next ht); clear ht))
    go_ret
    exact ⟨rfl, T2.out⟩
theorem turn_isV {b : Nat} {L K : List Int} {k : Int} (h1 : turnA L = (k, K)) {w : World} (q : QAt w b L) : Calls Try.prog 17 #[.pointer (some ⟨b, 0, none⟩)] w fun e w' => e = .returned (.int .i64 k) ∧ ToV w w' b K := by
  have := turn_okV b L w q
  rwa [h1] at this
end Go.Proofs.Ytmkoflmhopefhaa
