/- The contracts of package queue's Drop and of what moves up behind it. Condition: the queue lies as New laid it, or there is none, or nobody made it. -/
import Derived.Test.YtmkoflmhopefhaaV3
import Derived.Deep.RegionHeld3
namespace Go.Proofs.Ytmkoflmhopefhaa
open Go.RowKit
set_option maxRecDepth 100000

def PlaceV (h : Nat) (x : Int) (k : Nat) : Prop := ∃ i : Nat, x = (i : Int) ∧ i < 1000 ∧ (h + i) % 8 = k
theorem at_placeV (b h : Nat) (x : Int) (k : Nat) (w : World) (hc : w.cell? ⟨b, 8, none⟩ = some (.int .i64 (h : Int))) (hh : h < 8) (hx : PlaceV h x k) : Calls Try.prog 23 #[.pointer (some ⟨b, 0, none⟩), .int .i64 x] w fun e w' => e = .returned (.pointer (some ⟨b, k, none⟩)) ∧ ∃ m, w' = w.drewN m := by
  obtain ⟨i, rfl, hi, hk⟩ := hx
  exact at_okV b h i k w hc hh hi hk
/-- The queue, and the closure's own box. -/
structure CapV (w : World) (bx b : Nat) (A : List Int) (h m : Nat) : Prop where
  q : BoxV w b A h m
  cap : w.cell? ⟨bx, 0, none⟩ = some (.pointer (some ⟨b, 0, none⟩))
  ne : bx ≠ b
theorem CapV.drewN {w : World} {bx b h m : Nat} {A : List Int} (c : CapV w bx b A h m) (n : Nat) : CapV (w.drewN n) bx b A h m := ⟨c.q.drewN n, c.cap, c.ne⟩
theorem CapV.drew {w : World} {bx b h m : Nat} {A : List Int} (c : CapV w bx b A h m) : CapV w.drew bx b A h m := ⟨⟨c.q.len, c.q.top, c.q.many, c.q.box⟩, c.cap, c.ne⟩
set_option maxHeartbeats 2000000 in
theorem moveUp_ok (bx b h m i z z2 : Nat) (A : List Int) (w : World) (C : CapV w bx b A h m) (hi : i + 1 < 8) (hz : (h + i) % 8 = z) (hz2 : (h + (i + 1)) % 8 = z2) :
    Calls Try.prog 25 #[.int .i64 (i : Int), .pointer (some ⟨bx, 0, none⟩)] w fun e w' => e = .returned (.tuple #[]) ∧ CapV w' bx b (A.set z (A.getD z2 0)) h m ∧ w.grownBy w' (some b) := by
  have CC := Lib.hid C
  have hh := C.q.top
  have hz8 : z < 8 := by omega
  have hz28 : z2 < 8 := by omega
  have n1 : ¬ z = z2 := by omega
  have n2 : ¬ z2 = z := by omega
  have n3 : ¬ bx = b := C.ne
  have n4 : ¬ b = bx := fun e => n3 e.symm
  obtain ⟨I, hI⟩ : ∃ I : Int, I = (i : Int) := ⟨_, rfl⟩
  have P1 : Hid (PlaceV h I z) := Lib.hid ⟨i, hI, by omega, hz⟩
  obtain ⟨J, hJ⟩ : ∃ J : Int, J = ((i + 1 : Nat) : Int) := ⟨_, rfl⟩
  have P2 : Hid (PlaceV h J z2) := Lib.hid ⟨i + 1, hJ, by omega, hz2⟩
  have hw : IntKind.i64.wrap (I + 1) = J := by rw [IntKind.wrap_i64]; omega
  have hI0 : 0 ≤ I := by omega
  have hI8 : I < 8 := by omega
  rw [← hI]
  have cap := C.cap
  have cz := C.q.at_ z hz8
  have c2 := C.q.at_ z2 hz28
  have fz := C.q.free z
  generalize A.getD z2 0 = y at c2 ⊢
  clear hI hJ hi hz hz2 C
  go_enter Try.func25, Try.ntmps25
  go_wp2_with fail
  go_region_held3 (fun w' => w'.cell? ⟨bx, 0, none⟩ = some (.pointer (some ⟨b, 0, none⟩)) ∧ w'.cell? ⟨b, z2, none⟩ = some (.int .i64 y)) (first | (go_keep; done) | (refine ⟨?_, ?_⟩ <;> simp [*, World.cell?_setCell_other]))
    (first
      | (go_at_call 23; refine (at_placeV b h _ _ _ (by exact CC.out.q.head) hh (by first | exact P1.out | exact P2.out)).mono ?_; rintro e w2 ⟨rfl, q2, rfl⟩))
  go_wp2
  go_end0
  refine ⟨rfl, ⟨(CC.out.q.drewN _).set z hz8 y, ?_, n3⟩, grownBy_from (b := w.drewN _) (grownBy_setCell _ _ _ _) rfl rfl rfl rfl⟩
  rw [World.cell?_setCell_far _ _ _ _ (fun e => n4 e)]
  exact CC.out.cap
theorem NoQ.below {w w' : World} {p : Option Addr} (h : NoQ w p) (hb : Below w.heap.size w w') : NoQ w' p := by
  rcases h with h | ⟨b, h, k⟩
  · exact Or.inl h
  · exact Or.inr ⟨b, h, (hb.cell (p := ⟨b, 10, none⟩) (World.block_lt_of_cell? w _ k)).trans k⟩
theorem drop_noV (p : Option Addr) (n : Int) (w : World) (h : NoQ w p) : Calls Try.prog 16 #[.pointer p, .int .i64 n] w fun e w' => e = .returned (.int .i64 1) ∧ Below w.heap.size w w' := by
  obtain ⟨w1, hw1⟩ : ∃ w1, w1 = w.alloc (.cells #[.pointer p] 24) := ⟨_, rfl⟩
  have B1 : Hid (Below w.heap.size w w1) := Lib.hid (by rw [hw1]; exact (Below.refl _ _).alloc (Nat.le_refl _) _)
  have H := Lib.hid (h.below B1.out)
  clear h
  go_enter Try.func16, Try.ntmps16
  go_wp2_with fail
  rw [← hw1]
  clear hw1
  refine (find_no p n _ H.out).mono ?_
  rintro e w' ⟨rfl, rfl⟩
  go_wp2
  go_ret
  exact ⟨rfl, B1.out⟩
set_option maxHeartbeats 2000000 in
theorem drop_okV (b : Nat) (L : List Int) (n : Int) (w : World) (q : QAt w b L) : Calls Try.prog 16 #[.pointer (some ⟨b, 0, none⟩), .int .i64 n] w fun e w' => e = .returned (.int .i64 (dropEV L n)) ∧ ToV w w' b (dropLV L n) := by
  have hmf : ∀ (fn : Fn) (first cap : Array Value) (w : World), (Instr.makeFunc fn first cap).run Try.prog w = .ok (.func fn first cap) w := fun _ _ _ _ => rfl
  obtain ⟨w1, hw1⟩ : ∃ w1, w1 = w.alloc (.cells #[.pointer (some ⟨b, 0, none⟩)] 24) := ⟨_, rfl⟩
  have B1 : Hid (Below w.heap.size w w1) := Lib.hid (by rw [hw1]; exact (Below.refl _ _).alloc (Nat.le_refl _) _)
  have Q1 := Lib.hid (q.below B1.out)
  have ST : Hid (∀ {w' : World} {K : List Int}, ToV w1 w' b K → ToV w w' b K) := Lib.hid (fun h => ⟨h.st, grownBy_trans (grownBy_of_below B1.out _) h.grown⟩)
  obtain ⟨A, h, r, B⟩ := Q1.out.ex
  have cap : w1.cell? ⟨w.heap.size, 0, none⟩ = some (.pointer (some ⟨b, 0, none⟩)) := by rw [hw1, cell_of_row _ _ _ _ _ _ (heap_alloc_new w _)]; rfl
  have ne : w.heap.size ≠ b := by have := q.lt; omega
  have CAP : Hid (CapV w1 w.heap.size b A h L.length) := Lib.hid ⟨B, cap, ne⟩
  clear q ne
  rcases numV_ways n with ⟨hn, hb⟩ | ⟨hn, hb⟩
  · have E : Hid (dropEV L n = 2 ∧ dropLV L n = L) := Lib.hid (by simp [dropEV, dropLV, hn])
    have FB := Lib.hid (find_bad b n w1 B.made hb)
    rw [E.out.1, E.out.2]
    clear r B hn hb
    go_enter Try.func16, Try.ntmps16
    go_wp2_with fail
    rw [← hw1]
    clear hw1
    refine FB.out.mono ?_
    rintro e w' ⟨rfl, rfl⟩
    go_wp2
    go_ret
    exact ⟨rfl, ST.out (ToV.stay Q1.out (Below.refl _ _))⟩
  · have FO := Lib.hid (find_ok b A h L n w1 r B hb)
    have R := Lib.hid r
    obtain ⟨m, hm⟩ : ∃ m, m = L.length := ⟨_, rfl⟩
    rw [← hm] at CAP
    have HM := Lib.hid hm
    have HN := Lib.hid hn
    have hm8 : m ≤ 8 := CAP.out.q.many
    clear r B hn hb hm
    go_enter Try.func16, Try.ntmps16
    go_wp2_with fail
    rw [← hw1]
    clear hw1
    refine FO.out.mono ?_
    rintro e w' ⟨k, rfl, hf, q, rfl⟩
    have F := Lib.hid hf
    obtain ⟨bx, hbx⟩ : ∃ bx, bx = w.heap.size := ⟨_, rfl⟩
    rw [← hbx] at CAP cap ⊢
    have C2 := Lib.hid (CAP.out.drewN q)
    have cm := C2.out.q.howMany
    have cb := C2.out.cap
    have hkm : k ≤ m := by have := hf.1; have := HM.out; omega
    clear hf hbx cap
    by_cases hlt : k < m
    · have hin := F.out.there (by have := HM.out; omega)
      have E : Hid (dropEV L n = 0 ∧ dropLV L n = L.eraseIdx k) := Lib.hid ⟨by simp [dropEV, HN.out, hin], F.out.erase Q1.out.good (by have := HM.out; omega)⟩
      have hg := Lib.hid (Q1.out.good.drop n)
      obtain ⟨p, rfl⟩ : ∃ p, m = p + 1 := ⟨m - 1, by omega⟩
      have hne : ((k : Int) == (p : Int) + 1) = false := by simp; omega
      have cm : (w1.drewN q).cell? ⟨b, 9, none⟩ = some (.int .i64 ((p : Int) + 1)) := C2.out.q.howMany
      have f9 := C2.out.q.free 9
      obtain ⟨w3, hw3⟩ : ∃ w3, w3 = (w1.drewN q).setCell ⟨b, 9, none⟩ (.int .i64 (p : Int)) := ⟨_, rfl⟩
      have C3 : Hid (CapV w3 bx b A h p) := Lib.hid (by
        rw [hw3]
        exact ⟨C2.out.q.setMany p (by omega), by rw [World.cell?_setCell_far _ _ _ _ (fun e => C2.out.ne e.symm)]; exact C2.out.cap, C2.out.ne⟩)
      have G3 : Hid (w1.grownBy w3 (some b)) := Lib.hid (by rw [hw3]; exact grownBy_from (b := w1.drewN q) (grownBy_setCell _ _ _ _) rfl rfl rfl rfl)
      have R3 : Hid (RingF A h (p + 1) (movedV L k k)) := Lib.hid (by rw [HM.out]; exact R.out.moved k)
      clear hin
      go_wp2_with fail
      rw [← hw3]
      clear hw3 cm cb f9 hne
      go_loopw [5] (fun i wr => ∃ j : Nat, i = .int .i64 (j : Int) ∧ k ≤ j ∧ j ≤ p ∧ ∃ A', RingF A' h (p + 1) (movedV L k j) ∧ CapV wr bx b A' h p ∧ w1.grownBy wr (some b)) (fun i _ => p - (intOf i).toNat)
      case atStart => exact ⟨k, rfl, Nat.le_refl _, by omega, A, R3.out, C3.out, G3.out⟩
      case round =>
        obtain ⟨j, rfl, hj, hjp, A', hr, hc, hgr⟩ := hrel
        have RR := Lib.hid hr
        have CR := Lib.hid hc
        have GR := Lib.hid hgr
        have cm := CR.out.q.howMany
        have cb := CR.out.cap
        clear hr hc hgr
        by_cases hjl : j < p
        · have MV := Lib.hid (moveUp_ok bx b h p j _ _ A' wr CR.out (by omega) rfl rfl)
          go_wp2_with (go_at_call 25; refine MV.out.mono ?_; rintro e w5 ⟨rfl, hc, hgr⟩; have C5 := Lib.hid hc; have G5 := Lib.hid (grownBy_trans GR.out hgr); clear hc hgr)
          go_roundw
          case rel => exact ⟨j + 1, by go_num, by omega, by omega, _, RR.out.move hj (by omega), C5.out, G5.out⟩
          case measure => simp [intOf]; omega
        · obtain rfl : j = p := by omega
          go_wp2
          go_ret
          refine ⟨by rw [E.out.1]; rfl, ST.out ⟨⟨hg.out, A', h, ?_, ?_⟩, GR.out⟩⟩
          · rw [E.out.2]; exact RingF.erased (m := j + 1) RR.out HM.out (by omega)
          · have hl : (dropLV L n).length = j := by rw [E.out.2, List.length_eraseIdx_of_lt (by have := HM.out; omega), ← HM.out]; rfl
            rw [hl]; exact CR.out.q
    · have hin := F.out.none (by have := HM.out; omega)
      have E : Hid (dropEV L n = 4 ∧ dropLV L n = L) := Lib.hid ⟨by simp [dropEV, HN.out, hin], by
        rw [dropLV, if_pos HN.out]; exact List.filter_eq_self.2 (fun x hx => by simp; rintro rfl; exact hin hx)⟩
      obtain rfl : k = m := by omega
      clear hin
      go_wp2
      go_ret
      exact ⟨by rw [E.out.1]; rfl, by rw [E.out.2]; exact ST.out (ToV.stay Q1.out (below_drawsV w1 q))⟩
end Go.Proofs.Ytmkoflmhopefhaa
