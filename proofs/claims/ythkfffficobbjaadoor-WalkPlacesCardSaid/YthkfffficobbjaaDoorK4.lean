/- The contracts of package walk's At, Look, Load, Store. Conditions: the tables of package word read as laid; the memory lies as made, or there is none. -/
import Derived.Test.YthkfffficobbjaaDoorK3
namespace Go.Proofs.YthkfffficobbjaaDoor
open Go.RowKit
set_option maxRecDepth 100000

/-- What find tells: the entry, the place, the fault. -/
def findR (n : Nat) (L : List Int) (root va : Int) : Ent × Int × Int :=
  if 32768 ≤ va then (z0, 0, 1) else
  ((pageE n L root (va / 32)).1, (if (pageE n L root (va / 32)).2 = 0 then va % 32 else 0), (pageE n L root (va / 32)).2)

theorem div_two (va : Int) : va / 32 / 32 = va / 1024 := by omega

set_option maxHeartbeats 1000000 in
theorem find_mem (mp fb n : Nat) (L : List Int) (root va : Int) (w : World) (hL : LaidW w) (hW : Words L) (hm : MemSt w mp fb n L) (h0 : 0 ≤ va) :
    Calls Tryd.prog 28 #[.pointer (some ⟨mp, 0, none⟩), .int .i64 root, .int .u32 va] w fun e w' =>
      e = .returned (.tuple #[entV (findR n L root va).1, .int .i64 (findR n L root va).2.1, .int .u8 (findR n L root va).2.2]) ∧ Below w.heap.size w w' := by
  by_cases h1 : 32768 ≤ va
  · have e : findR n L root va = (z0, 0, 1) := if_pos h1
    rw [e]
    exact find_range _ root va w h1
  have h1' : va < 32768 := by omega
  have hno : ∀ (f q : Int), entAt n L f q = none → ∀ W kb, Below w.heap.size w W → WkSt W kb (some ⟨mp, 0, none⟩) f → Calls Tryd.prog 40 #[.pointer (some ⟨kb, 0, none⟩), .int .i64 q] W fun e w' => e = .returned (.tuple #[ent false false false 0, .int .u8 6]) ∧ Below W.heap.size W w' :=
    fun f q he W kb hb hk => step_none kb mp fb n L f q W (hL.below hb) hW (hm.below hb) hk he
  have some' : ∀ (f q : Int) (p x c : Bool) (g : Int), entAt n L f q = some (p, x, c, g) → ∀ W kb, Below w.heap.size w W → WkSt W kb (some ⟨mp, 0, none⟩) f → Calls Tryd.prog 40 #[.pointer (some ⟨kb, 0, none⟩), .int .i64 q] W fun e w' => e = .returned (.tuple #[ent p x c g, .int .u8 0]) ∧ WkGo W w' kb (some ⟨mp, 0, none⟩) g :=
    fun f q p x c g he W kb hb hk => step_some kb mp fb n L f q p x c g W (hL.below hb) hW (hm.below hb) hk he
  have oute : ∀ x f, pageE n L root (va / 32) = (x, f) → f ≠ 0 → findR n L root va = (x, 0, f) := fun x f h hf => by
    unfold findR
    rw [if_neg h1, h]
    exact congrArg (fun q => (x, q, f)) (if_neg hf)
  have out0 : ∀ x, pageE n L root (va / 32) = (x, 0) → findR n L root va = (x, va % 32, 0) := fun x h => by
    unfold findR
    rw [if_neg h1, h]
    exact congrArg (fun q => (x, q, (0 : Int))) (if_pos rfl)
  have zero : ∀ {f q : Int} {t : Ent}, entAt n L f q = some t → t.1 = false → t = z0 := fun he ht => (decode_low (entAt_some he).2.1).2.2 ht
  rcases pageE_cases n L root (va / 32) with ⟨a1, r⟩ | ⟨t, a1, a2, r⟩ | ⟨⟨p, x, c, g⟩, a1, a2, a3, r⟩ | ⟨⟨p, x, c, g⟩, t, a1, a2, a3, a4, r⟩ | ⟨⟨p, x, c, g⟩, ⟨p2, x2, c2, g2⟩, a1, a2, a3, a4, r⟩
  all_goals
    rw [div_two] at a1
    first | rw [oute _ _ r (by decide)] | rw [out0 _ r]
  · exact find_one _ root va w h0 h1' hL (hno _ _ a1)
  · obtain rfl := zero a1 a2
    exact find_table _ root va w h0 h1' hL (some' _ _ _ _ _ _ a1)
  · obtain rfl : p = true := a2
    exact find_two _ root va x c g w h0 h1' hL (some' _ _ _ _ _ _ a1) (hno _ _ a3)
  · obtain rfl : p = true := a2
    obtain rfl := zero a3 a4
    exact find_page _ root va x c g w h0 h1' hL (some' _ _ _ _ _ _ a1) (some' _ _ _ _ _ _ a3)
  · obtain rfl : p = true := a2
    obtain rfl : p2 = true := a4
    exact find_there _ root va x c g x2 c2 g2 w h0 h1' hL (some' _ _ _ _ _ _ a1) (some' _ _ _ _ _ _ a3)
set_option maxHeartbeats 1000000 in
theorem find_nil (po : Option Addr) (root va : Int) (w : World) (hL : LaidW w) (hp : NoMem w po) (h0 : 0 ≤ va) :
    Calls Tryd.prog 28 #[.pointer po, .int .i64 root, .int .u32 va] w fun e w' =>
      e = .returned (.tuple #[ent false false false 0, .int .i64 0, .int .u8 (if 32768 ≤ va then 1 else 6)]) ∧ Below w.heap.size w w' := by
  by_cases h1 : 32768 ≤ va
  · rw [if_pos h1]; exact find_range _ root va w h1
  · rw [if_neg h1]
    exact find_one _ root va w h0 (by omega) hL (fun W kb hb hk => step_nil kb po root _ W (hp.below hb) hk)

theorem denied_cow (p x : Bool) (g : Int) (w : World) : Calls Tryd.prog 29 #[ent p x true g] w fun e w' => e = .returned (.int .u8 5) ∧ Below w.heap.size w w' := by
  go_enter Tryd.func29, Tryd.ntmps29
  go_wp2
  go_ret
  exact ⟨rfl, (Below.refl _ _).alloc (Nat.le_refl _) _⟩
theorem denied_write (p : Bool) (g : Int) (w : World) : Calls Tryd.prog 29 #[ent p false false g] w fun e w' => e = .returned (.int .u8 4) ∧ Below w.heap.size w w' := by
  go_enter Tryd.func29, Tryd.ntmps29
  go_wp2
  go_ret
  exact ⟨rfl, (Below.refl _ _).alloc (Nat.le_refl _) _⟩
theorem denied_none (p : Bool) (g : Int) (w : World) : Calls Tryd.prog 29 #[ent p true false g] w fun e w' => e = .returned (.int .u8 0) ∧ Below w.heap.size w w' := by
  go_enter Tryd.func29, Tryd.ntmps29
  go_wp2
  go_ret
  exact ⟨rfl, (Below.refl _ _).alloc (Nat.le_refl _) _⟩

/-- Where an address is: find's answer, by the kind of access. -/
def AtArgs (p : Option Addr) (root va : Int) (wr : Bool) : Array Value := #[.pointer p, .int .i64 root, .int .u32 va, .bool wr]
set_option maxHeartbeats 1000000 in
theorem at_fault (po : Option Addr) (root va : Int) (wr : Bool) (p x c : Bool) (g pl f : Int) (w : World) (hf : (f == 0) = false) (hf2 : (f != 0) = true)
    (hs : Calls Tryd.prog 28 #[.pointer po, .int .i64 root, .int .u32 va] w fun e w' => e = .returned (.tuple #[ent p x c g, .int .i64 pl, .int .u8 f]) ∧ Below w.heap.size w w') :
    Calls Tryd.prog 12 #[.pointer po, .int .i64 root, .int .u32 va, .bool wr] w fun e w' => e = .returned (.tuple #[.int .i64 0, .int .i64 0, .int .u8 f]) ∧ Below w.heap.size w w' := by
  have HS := Lib.hid hs
  clear hs
  go_enter Tryd.func12, Tryd.ntmps12
  go_wp2_with fail
  refine HS.out.mono ?_
  rintro e w1 ⟨rfl, hb⟩
  have B1 := Lib.hid hb
  clear hb
  go_wp2
  exact bodyPost_ret (v := .tuple #[.int .i64 0, .int .i64 0, .int .u8 f]) (by simp [results, Tryd.results12, go_sem]) rfl ⟨rfl, B1.out.alloc B1.out.size _⟩
set_option maxHeartbeats 1000000 in
theorem at_read (po : Option Addr) (root va : Int) (p x c : Bool) (g pl : Int) (w : World)
    (hs : Calls Tryd.prog 28 #[.pointer po, .int .i64 root, .int .u32 va] w fun e w' => e = .returned (.tuple #[ent p x c g, .int .i64 pl, .int .u8 0]) ∧ Below w.heap.size w w') :
    Calls Tryd.prog 12 #[.pointer po, .int .i64 root, .int .u32 va, .bool false] w fun e w' => e = .returned (.tuple #[.int .i64 g, .int .i64 pl, .int .u8 0]) ∧ Below w.heap.size w w' := by
  have HS := Lib.hid hs
  clear hs
  go_enter Tryd.func12, Tryd.ntmps12
  go_wp2_with fail
  refine HS.out.mono ?_
  rintro e w1 ⟨rfl, hb⟩
  have B1 := Lib.hid hb
  clear hb
  go_wp2
  exact bodyPost_ret (v := .tuple #[.int .i64 g, .int .i64 pl, .int .u8 0]) (by simp [results, Tryd.results12, go_sem]) rfl ⟨rfl, B1.out.alloc B1.out.size _⟩
set_option maxHeartbeats 1000000 in
theorem at_denied (po : Option Addr) (root va : Int) (p x c : Bool) (g pl f : Int) (w : World) (hf2 : (f != 0) = true)
    (hs : Calls Tryd.prog 28 #[.pointer po, .int .i64 root, .int .u32 va] w fun e w' => e = .returned (.tuple #[ent p x c g, .int .i64 pl, .int .u8 0]) ∧ Below w.heap.size w w')
    (hd : ∀ W, Calls Tryd.prog 29 #[ent p x c g] W fun e w' => e = .returned (.int .u8 f) ∧ Below W.heap.size W w') :
    Calls Tryd.prog 12 #[.pointer po, .int .i64 root, .int .u32 va, .bool true] w fun e w' => e = .returned (.tuple #[.int .i64 0, .int .i64 0, .int .u8 f]) ∧ Below w.heap.size w w' := by
  have HS := Lib.hid hs
  have HD := Lib.hid hd
  clear hs hd
  go_enter Tryd.func12, Tryd.ntmps12
  go_wp2_with fail
  refine HS.out.mono ?_
  rintro e w1 ⟨rfl, hb⟩
  have B1 := Lib.hid hb
  clear hb
  go_wp2_with fail
  refine (HD.out _).mono ?_
  rintro e w2 ⟨rfl, hb⟩
  have B2 := Lib.hid ((B1.out.alloc B1.out.size (.cells #[.bool p, .bool x, .bool c, .int .i64 g] 39)).trans (hb.mono (by have := B1.out.size; simp; omega)))
  clear hb
  go_wp2
  exact bodyPost_ret (v := .tuple #[.int .i64 0, .int .i64 0, .int .u8 f]) (by simp [results, Tryd.results12, go_sem]) rfl ⟨rfl, B2.out⟩
set_option maxHeartbeats 1000000 in
theorem at_write (po : Option Addr) (root va : Int) (p x c : Bool) (g pl : Int) (w : World)
    (hs : Calls Tryd.prog 28 #[.pointer po, .int .i64 root, .int .u32 va] w fun e w' => e = .returned (.tuple #[ent p x c g, .int .i64 pl, .int .u8 0]) ∧ Below w.heap.size w w')
    (hd : ∀ W, Calls Tryd.prog 29 #[ent p x c g] W fun e w' => e = .returned (.int .u8 0) ∧ Below W.heap.size W w') :
    Calls Tryd.prog 12 #[.pointer po, .int .i64 root, .int .u32 va, .bool true] w fun e w' => e = .returned (.tuple #[.int .i64 g, .int .i64 pl, .int .u8 0]) ∧ Below w.heap.size w w' := by
  have HS := Lib.hid hs
  have HD := Lib.hid hd
  clear hs hd
  go_enter Tryd.func12, Tryd.ntmps12
  go_wp2_with fail
  refine HS.out.mono ?_
  rintro e w1 ⟨rfl, hb⟩
  have B1 := Lib.hid hb
  clear hb
  go_wp2_with fail
  refine (HD.out _).mono ?_
  rintro e w2 ⟨rfl, hb⟩
  have B2 := Lib.hid ((B1.out.alloc B1.out.size (.cells #[.bool p, .bool x, .bool c, .int .i64 g] 39)).trans (hb.mono (by have := B1.out.size; simp; omega)))
  have k3 := (cell_of_row w2 _ 3 _ _ _ (below_block hb (heap_alloc_new w1 (.cells #[.bool p, .bool x, .bool c, .int .i64 g] 39)))).trans rfl
  clear hb
  go_wp2
  exact bodyPost_ret (v := .tuple #[.int .i64 g, .int .i64 pl, .int .u8 0]) (by simp [results, Tryd.results12, go_sem]) rfl ⟨rfl, B2.out⟩

theorem pageE_fault (n : Nat) (L : List Int) (root pg : Int) : (pageE n L root pg).2 = 0 ∨ (pageE n L root pg).2 = 2 ∨ (pageE n L root pg).2 = 3 ∨ (pageE n L root pg).2 = 6 := by
  rcases pageE_cases n L root pg with ⟨_, r⟩ | ⟨_, _, _, r⟩ | ⟨_, _, _, _, r⟩ | ⟨_, _, _, _, _, _, r⟩ | ⟨_, _, _, _, _, _, r⟩ <;> rw [r] <;> simp

set_option maxHeartbeats 1000000 in
theorem at_mem (mp fb n : Nat) (L : List Int) (root va : Int) (wr : Bool) (w : World) (hL : LaidW w) (hW : Words L) (hm : MemSt w mp fb n L) (h0 : 0 ≤ va) :
    Calls Tryd.prog 12 #[.pointer (some ⟨mp, 0, none⟩), .int .i64 root, .int .u32 va, .bool wr] w fun e w' =>
      e = .returned (.tuple #[.int .i64 (atE n L root va wr).1, .int .i64 (atE n L root va wr).2.1, .int .u8 (atE n L root va wr).2.2]) ∧ Below w.heap.size w w' := by
  have hs := find_mem mp fb n L root va w hL hW hm h0
  unfold atE
  by_cases h1 : 32768 ≤ va
  · rw [if_pos h1]
    rw [show findR n L root va = (z0, 0, 1) from if_pos h1] at hs
    exact at_fault _ root va wr _ _ _ _ _ 1 w rfl rfl hs
  rw [if_neg h1]
  have hr : findR n L root va = ((pageE n L root (va / 32)).1, (if (pageE n L root (va / 32)).2 = 0 then va % 32 else 0), (pageE n L root (va / 32)).2) := if_neg h1
  rw [hr] at hs
  clear hr
  have hc := pageE_fault n L root (va / 32)
  generalize pageE n L root (va / 32) = r at hs hc ⊢
  obtain ⟨⟨p, x, c, g⟩, f⟩ := r
  by_cases hf : f ≠ 0
  · rw [if_pos hf]
    rw [if_neg hf] at hs
    exact at_fault _ root va wr p x c g 0 f w (by simpa using hf) (by simpa using hf) hs
  · rw [if_neg hf]
    obtain rfl : f = 0 := by simpa using hf
    rw [if_pos rfl] at hs
    cases wr
    · exact at_read _ root va p x c g (va % 32) w hs
    · cases c
      · cases x
        · exact at_denied _ root va p false false g (va % 32) 4 w rfl hs (denied_write p g)
        · exact at_write _ root va p true false g (va % 32) w hs (denied_none p g)
      · exact at_denied _ root va p x true g (va % 32) 5 w rfl hs (denied_cow p x g)
theorem at_nil (po : Option Addr) (root va : Int) (wr : Bool) (w : World) (hL : LaidW w) (hp : NoMem w po) (h0 : 0 ≤ va) :
    Calls Tryd.prog 12 #[.pointer po, .int .i64 root, .int .u32 va, .bool wr] w fun e w' =>
      e = .returned (.tuple #[.int .i64 0, .int .i64 0, .int .u8 (if 32768 ≤ va then 1 else 6)]) ∧ Below w.heap.size w w' := by
  have hs := find_nil po root va w hL hp h0
  by_cases h1 : 32768 ≤ va
  · rw [if_pos h1] at hs ⊢
    exact at_fault _ root va wr _ _ _ _ _ 1 w rfl rfl hs
  · rw [if_neg h1] at hs ⊢
    exact at_fault _ root va wr _ _ _ _ _ 6 w rfl rfl hs
end Go.Proofs.YthkfffficobbjaaDoor
