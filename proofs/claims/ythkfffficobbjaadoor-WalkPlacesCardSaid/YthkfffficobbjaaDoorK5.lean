/- The contracts of package walk's Look, Load, Store. Conditions: the tables of package word read as laid; the memory lies as made, or there is none. -/
import Derived.Test.YthkfffficobbjaaDoorK4
namespace Go.Proofs.YthkfffficobbjaaDoor
open Go.RowKit
set_option maxRecDepth 100000

/-- A page's entry, and the error. -/
def lookE (n : Nat) (L : List Int) (root pg : Int) : Ent × Int :=
  if pg < 0 ∨ 1023 < pg then (z0, 2) else
  if (pageE n L root pg).2 = 6 then (z0, 6) else
  if (pageE n L root pg).2 = 2 then (z0, 4) else
  ((pageE n L root pg).1, 0)

set_option maxHeartbeats 1000000 in
theorem look_nil (po : Option Addr) (root pg : Int) (w : World) (hp : NoMem w po) :
    Calls Tryd.prog 14 #[.pointer po, .int .i64 root, .int .i64 pg] w fun e w' => e = .returned (.tuple #[ent false false false 0, .int .i64 1]) ∧ Below w.heap.size w w' := by
  have HP := Lib.hid hp
  clear hp
  go_enter Tryd.func14, Tryd.ntmps14
  go_wp2_with fail
  refine (frames_no po _ (by exact HP.out.below ((Below.refl _ _).alloc (Nat.le_refl _) _))).mono ?_
  rintro e w1 ⟨rfl, rfl⟩
  go_wp2
  exact bodyPost_ret (v := .tuple #[ent false false false 0, .int .i64 1]) (by simp [results, Tryd.results14, go_sem]) rfl ⟨rfl, (Below.refl _ _).alloc (Nat.le_refl _) _⟩
set_option maxHeartbeats 1000000 in
theorem look_arg (mp fb n : Nat) (L : List Int) (root pg : Int) (w : World) (hm : MemSt w mp fb n L) (h : pg < 0 ∨ 1023 < pg) :
    Calls Tryd.prog 14 #[.pointer (some ⟨mp, 0, none⟩), .int .i64 root, .int .i64 pg] w fun e w' => e = .returned (.tuple #[ent false false false 0, .int .i64 2]) ∧ Below w.heap.size w w' := by
  have HM := Lib.hid hm
  have HG : Hid (pg < 0 ∨ 1024 ≤ pg ∨ (0 : Int) < 0 ∨ (32 : Int) ≤ 0) := Lib.hid (by omega)
  have hn : ((n : Int) == 0) = false := by have := hm.pos; simp; omega
  clear hm h
  go_enter Tryd.func14, Tryd.ntmps14
  go_wp2_with fail
  refine (frames_some mp _ n n _ (by exact (HM.out.below ((Below.refl _ _).alloc (Nat.le_refl _) _)).cellM)).mono ?_
  rintro e w1 ⟨rfl, rfl⟩
  go_wp2_with fail
  refine (address_no pg 0 _ HG.out).mono ?_
  rintro e w1 ⟨rfl, rfl⟩
  go_wp2
  exact bodyPost_ret (v := .tuple #[ent false false false 0, .int .i64 2]) (by simp [results, Tryd.results14, go_sem]) rfl ⟨rfl, (Below.refl _ _).alloc (Nat.le_refl _) _⟩

theorem below_allocs {W w : World} (h : Below W.heap.size W w) (o : Obj) : Below W.heap.size W (w.alloc o) := h.alloc h.size o
theorem address_zero (p : Int) (w : World) (h0 : 0 ≤ p) (h1 : p < 1024) (h : LaidW w) : Calls Tryd.prog 32 #[.int .i64 p, .int .i64 0] w fun e w' => e = .returned (.tuple #[.int .u32 (p * 32), .int .i64 0]) ∧ w' = w := by
  have A := address_yes p 0 w h0 h1 (by omega) (by omega) h
  rw [Int.add_zero] at A
  exact A
set_option maxHeartbeats 2000000 in
/-- Look, by what find answers: k is Look's own error, (p', x', c', g') its entry. -/
theorem look_find (mp fb n : Nat) (L : List Int) (root pg f : Int) (p x c : Bool) (g : Int) (w : World) (hL : LaidW w) (hm : MemSt w mp fb n L) (h0 : 0 ≤ pg) (h1 : pg < 1024) (pl : Int)
    (hs : ∀ W, Below w.heap.size w W → Calls Tryd.prog 28 #[.pointer (some ⟨mp, 0, none⟩), .int .i64 root, .int .u32 (pg * 32)] W fun e w' => e = .returned (.tuple #[ent p x c g, .int .i64 pl, .int .u8 f]) ∧ Below W.heap.size W w')
    (p' x' c' : Bool) (g' k : Int) (hcase : (f = 6 ∧ (p', x', c', g', k) = (false, false, false, 0, 6)) ∨ (f = 2 ∧ (p', x', c', g', k) = (false, false, false, 0, 4)) ∨ (((f == 6) = false ∧ (f == 2) = false) ∧ (p', x', c', g', k) = (p, x, c, g, 0))) :
    Calls Tryd.prog 14 #[.pointer (some ⟨mp, 0, none⟩), .int .i64 root, .int .i64 pg] w fun e w' => e = .returned (.tuple #[ent p' x' c' g', .int .i64 k]) ∧ Below w.heap.size w w' := by
  have HM := Lib.hid hm
  have HS := Lib.hid hs
  have HL := Lib.hid hL
  have hn : ((n : Int) == 0) = false := by have := hm.pos; simp; omega
  clear hm hs hL
  simp only [Prod.mk.injEq] at hcase
  rcases hcase with ⟨rfl, rfl, rfl, rfl, rfl, rfl⟩ | ⟨rfl, rfl, rfl, rfl, rfl, rfl⟩ | ⟨⟨hf1, hf2⟩, rfl, rfl, rfl, rfl, rfl⟩
  all_goals
    go_enter Tryd.func14, Tryd.ntmps14
    go_wp2_with fail
    obtain ⟨w0, hw0⟩ : ∃ w0, w0 = w.alloc (.cells #[.bool false, .bool false, .bool false, .int .i64 0] 39) := ⟨_, rfl⟩
    have S0 := Lib.hid (show FindSt w w0 false false false 0 by rw [hw0]; exact FindSt.start w)
    rw [← hw0]
    clear hw0
    refine (frames_some mp _ n n w0 (by exact (HM.out.below S0.out.below).cellM)).mono ?_
    rintro e w1 ⟨rfl, rfl⟩
    go_wp2_with fail
    refine (address_zero pg w0 h0 h1 (by exact HL.out.below S0.out.below)).mono ?_
    rintro e w1 ⟨rfl, rfl⟩
    go_wp2_with fail
    refine (HS.out _ S0.out.below).mono ?_
    rintro e w2 ⟨rfl, hb⟩
    have S2 := Lib.hid (S0.out.step hb)
    clear hb
    obtain ⟨r0, r1, r2, r3, rf⟩ := box4 S2.out.res
    have f0 := rf 0
    have f1 := rf 1
    have f2 := rf 2
    have f3 := rf 3
    clear rf
    have hlt : w.heap.size < w2.heap.size := lt_of_block S2.out.res
    have hne : w.heap.size ≠ w2.heap.size := Nat.ne_of_lt hlt
    go_wp2
    refine bodyPost_ret (v := .tuple #[ent _ _ _ _, .int .i64 _]) (by simp [results, Tryd.results14, go_sem, r0, r1, r2, r3, hlt]; done) rfl ⟨rfl, below_allocs (below_four S2.out.below _ _ _ _) _⟩
set_option maxHeartbeats 1000000 in
theorem look_mem (mp fb n : Nat) (L : List Int) (root pg : Int) (w : World) (hL : LaidW w) (hW : Words L) (hm : MemSt w mp fb n L) :
    Calls Tryd.prog 14 #[.pointer (some ⟨mp, 0, none⟩), .int .i64 root, .int .i64 pg] w fun e w' => e = .returned (.tuple #[entV (lookE n L root pg).1, .int .i64 (lookE n L root pg).2]) ∧ Below w.heap.size w w' := by
  unfold lookE
  by_cases h : pg < 0 ∨ 1023 < pg
  · rw [if_pos h]; exact look_arg mp fb n L root pg w hm h
  rw [if_neg h]
  have h0 : 0 ≤ pg := by omega
  have h1 : pg < 1024 := by omega
  have hs : ∀ W, Below w.heap.size w W → _ := fun W hb => find_mem mp fb n L root (pg * 32) W (hL.below hb) hW (hm.below hb) (by omega)
  rw [show findR n L root (pg * 32) = ((pageE n L root (pg * 32 / 32)).1, (if (pageE n L root (pg * 32 / 32)).2 = 0 then pg * 32 % 32 else 0), (pageE n L root (pg * 32 / 32)).2) from if_neg (by omega), show pg * 32 / 32 = pg by omega] at hs
  have hc := pageE_fault n L root pg
  generalize pageE n L root pg = r at hs hc ⊢
  obtain ⟨⟨p, x, c, g⟩, f⟩ := r
  simp only at hs hc ⊢
  by_cases h6 : f = 6
  · rw [if_pos h6]
    exact look_find mp fb n L root pg f p x c g w hL hm h0 h1 _ hs false false false 0 6 (Or.inl ⟨h6, rfl⟩)
  rw [if_neg h6]
  by_cases h2 : f = 2
  · rw [if_pos h2]
    exact look_find mp fb n L root pg f p x c g w hL hm h0 h1 _ hs false false false 0 4 (Or.inr (Or.inl ⟨h2, rfl⟩))
  rw [if_neg h2]
  exact look_find mp fb n L root pg f p x c g w hL hm h0 h1 _ hs p x c g 0 (Or.inr (Or.inr ⟨⟨by simpa using h6, by simpa using h2⟩, rfl⟩))

/-- A place that At tells is one of the memory. -/
theorem atE_ok {n : Nat} {L : List Int} {root va : Int} {wr : Bool} (hf : (atE n L root va wr).2.2 = 0) : va < 32768 ∧ okFQ n (atE n L root va wr).1 (atE n L root va wr).2.1 ∧ (pageE n L root (va / 32)).2 = 0 ∧ atE n L root va wr = ((pageE n L root (va / 32)).1.2.2.2, va % 32, 0) := by
  unfold atE at hf ⊢
  by_cases h1 : 32768 ≤ va
  · rw [if_pos h1] at hf; simp at hf
  rw [if_neg h1] at hf ⊢
  by_cases h2 : (pageE n L root (va / 32)).2 ≠ 0
  · rw [if_pos h2] at hf; exact absurd hf h2
  rw [if_neg h2] at hf ⊢
  by_cases h3 : wr = true ∧ (pageE n L root (va / 32)).1.2.2.1 = true
  · rw [if_pos h3] at hf; simp at hf
  rw [if_neg h3] at hf ⊢
  by_cases h4 : wr = true ∧ (pageE n L root (va / 32)).1.2.1 = false
  · rw [if_pos h4] at hf; simp at hf
  rw [if_neg h4]
  have h2' : (pageE n L root (va / 32)).2 = 0 := by simpa using h2
  refine ⟨by omega, ?_, h2', rfl⟩
  rcases pageE_cases n L root (va / 32) with ⟨_, r⟩ | ⟨_, _, _, r⟩ | ⟨_, _, _, _, r⟩ | ⟨_, _, _, _, _, _, r⟩ | ⟨t, x, _, _, k, _, r⟩
  · rw [r] at h2'; simp at h2'
  · rw [r] at h2'; simp at h2'
  · rw [r] at h2'; simp at h2'
  · rw [r] at h2'; simp at h2'
  · rw [r]
    have k2 := entAt_some k
    have k3 := decode_low k2.2.1
    unfold okFQ
    simp only
    omega

/-- The word at an address, and the fault. -/
def loadE (n : Nat) (L : List Int) (root va : Int) : Int × Int :=
  if (atE n L root va false).2.2 = 0 then (L.getD (idx (atE n L root va false).1 (atE n L root va false).2.1) 0, 0) else (0, (atE n L root va false).2.2)
set_option maxHeartbeats 1000000 in
theorem load_fault (po : Option Addr) (root va a b f : Int) (w : World) (hf : (f != 0) = true)
    (hs : Calls Tryd.prog 12 #[.pointer po, .int .i64 root, .int .u32 va, .bool false] w fun e w' => e = .returned (.tuple #[.int .i64 a, .int .i64 b, .int .u8 f]) ∧ Below w.heap.size w w') :
    Calls Tryd.prog 16 #[.pointer po, .int .i64 root, .int .u32 va] w fun e w' => e = .returned (.tuple #[.int .u32 0, .int .u8 f]) ∧ Below w.heap.size w w' := by
  have HS := Lib.hid hs
  clear hs
  go_enter Tryd.func16, Tryd.ntmps16
  go_wp2_with fail
  refine HS.out.mono ?_
  rintro e w1 ⟨rfl, hb⟩
  have B1 := Lib.hid hb
  clear hb
  go_wp2
  go_ret2
  exact ⟨rfl, B1.out⟩
set_option maxHeartbeats 1000000 in
theorem load_there (po : Option Addr) (root va a b v : Int) (w : World)
    (hs : Calls Tryd.prog 12 #[.pointer po, .int .i64 root, .int .u32 va, .bool false] w fun e w' => e = .returned (.tuple #[.int .i64 a, .int .i64 b, .int .u8 0]) ∧ Below w.heap.size w w')
    (hr : ∀ W, Below w.heap.size w W → Calls Tryd.prog 23 #[.pointer po, .int .i64 a, .int .i64 b] W fun e w' => e = .returned (.tuple #[.int .u32 v, .int .i64 0]) ∧ Below W.heap.size W w') :
    Calls Tryd.prog 16 #[.pointer po, .int .i64 root, .int .u32 va] w fun e w' => e = .returned (.tuple #[.int .u32 v, .int .u8 0]) ∧ Below w.heap.size w w' := by
  have HS := Lib.hid hs
  have HR := Lib.hid hr
  clear hs hr
  go_enter Tryd.func16, Tryd.ntmps16
  go_wp2_with fail
  refine HS.out.mono ?_
  rintro e w1 ⟨rfl, hb⟩
  have B1 := Lib.hid hb
  clear hb
  go_wp2_with fail
  refine (HR.out _ B1.out).mono ?_
  rintro e w2 ⟨rfl, hb⟩
  have B2 := Lib.hid (B1.out.trans (hb.mono B1.out.size))
  clear hb
  go_wp2
  go_ret2
  exact ⟨rfl, B2.out⟩
theorem load_mem (mp fb n : Nat) (L : List Int) (root va : Int) (w : World) (hL : LaidW w) (hW : Words L) (hm : MemSt w mp fb n L) (h0 : 0 ≤ va) :
    Calls Tryd.prog 16 #[.pointer (some ⟨mp, 0, none⟩), .int .i64 root, .int .u32 va] w fun e w' => e = .returned (.tuple #[.int .u32 (loadE n L root va).1, .int .u8 (loadE n L root va).2]) ∧ Below w.heap.size w w' := by
  have hs := at_mem mp fb n L root va false w hL hW hm h0
  unfold loadE
  by_cases hf : (atE n L root va false).2.2 = 0
  · rw [if_pos hf]
    rw [hf] at hs
    exact load_there _ root va _ _ _ w hs (fun W hb => read_i mp fb n L _ _ W (hm.below hb) (atE_ok hf).2.1)
  · rw [if_neg hf]
    exact load_fault _ root va _ _ _ w (by simpa using hf) hs

/-- The words behind a store. -/
def storeL (n : Nat) (L : List Int) (root va v : Int) : List Int :=
  if (atE n L root va true).2.2 = 0 then L.set (idx (atE n L root va true).1 (atE n L root va true).2.1) v else L
set_option maxHeartbeats 1000000 in
theorem store_fault (po : Option Addr) (root va v a b f : Int) (w : World) (hf : (f != 0) = true)
    (hs : Calls Tryd.prog 12 #[.pointer po, .int .i64 root, .int .u32 va, .bool true] w fun e w' => e = .returned (.tuple #[.int .i64 a, .int .i64 b, .int .u8 f]) ∧ Below w.heap.size w w') :
    Calls Tryd.prog 18 #[.pointer po, .int .i64 root, .int .u32 va, .int .u32 v] w fun e w' => e = .returned (.int .u8 f) ∧ Below w.heap.size w w' := by
  have HS := Lib.hid hs
  clear hs
  go_enter Tryd.func18, Tryd.ntmps18
  go_wp2_with fail
  refine HS.out.mono ?_
  rintro e w1 ⟨rfl, hb⟩
  have B1 := Lib.hid hb
  clear hb
  go_wp2
  go_ret
  exact ⟨rfl, B1.out⟩
set_option maxHeartbeats 1000000 in
theorem store_there (po : Option Addr) (root va v a b : Int) (mp fb n : Nat) (L : List Int) (w : World)
    (hs : Calls Tryd.prog 12 #[.pointer po, .int .i64 root, .int .u32 va, .bool true] w fun e w' => e = .returned (.tuple #[.int .i64 a, .int .i64 b, .int .u8 0]) ∧ Below w.heap.size w w')
    (hr : ∀ W, Below w.heap.size w W → Calls Tryd.prog 27 #[.pointer po, .int .i64 a, .int .i64 b, .int .u32 v] W fun e w' => e = .returned (.int .i64 0) ∧ Puts W w' mp fb n L) :
    Calls Tryd.prog 18 #[.pointer po, .int .i64 root, .int .u32 va, .int .u32 v] w fun e w' => e = .returned (.int .u8 0) ∧ Puts w w' mp fb n L := by
  have HS := Lib.hid hs
  have HR := Lib.hid hr
  clear hs hr
  go_enter Tryd.func18, Tryd.ntmps18
  go_wp2_with fail
  refine HS.out.mono ?_
  rintro e w1 ⟨rfl, hb⟩
  have B1 := Lib.hid hb
  clear hb
  go_wp2_with fail
  refine (HR.out _ B1.out).mono ?_
  rintro e w2 ⟨rfl, hp⟩
  have P2 := Lib.hid (Puts.ahead B1.out hp)
  clear hp
  go_wp2
  go_ret
  exact ⟨rfl, P2.out⟩
theorem store_mem (mp fb n : Nat) (L : List Int) (root va v : Int) (w : World) (hL : LaidW w) (hW : Words L) (hm : MemSt w mp fb n L) (h0 : 0 ≤ va) :
    Calls Tryd.prog 18 #[.pointer (some ⟨mp, 0, none⟩), .int .i64 root, .int .u32 va, .int .u32 v] w fun e w' => e = .returned (.int .u8 (atE n L root va true).2.2) ∧ Puts w w' mp fb n (storeL n L root va v) := by
  have hs := at_mem mp fb n L root va true w hL hW hm h0
  unfold storeL
  by_cases hf : (atE n L root va true).2.2 = 0
  · rw [if_pos hf]
    rw [hf] at hs ⊢
    exact store_there _ root va v _ _ mp fb n _ w hs (fun W hb => write_i mp fb n L _ _ v W (hm.below hb) (atE_ok hf).2.1)
  · rw [if_neg hf]
    exact (store_fault _ root va v _ _ _ w (by simpa using hf) hs).mono fun e w' ⟨he, hb⟩ => ⟨he, Puts.stay hm hb⟩
end Go.Proofs.YthkfffficobbjaaDoor
