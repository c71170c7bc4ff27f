/- The contract of the document's own Get, and awake: some answers that the document fixes. Conditions: the two tables read as laid. -/
import Derived.Test.YthkfffficobbjaaDoorW6
namespace Go.Proofs.YthkfffficobbjaaDoor
open Go.RowKit

set_option maxRecDepth 100000 in
set_option maxHeartbeats 1000000 in
theorem rget_big (a : Int) (W : World) (_h0 : 0 ≤ a) (h2 : 262144 ≤ a) :
    Calls Tryd.prog 46 #[.int .u32 a] W fun e w' => e = .returned (.tuple #[ent false false false 0, .int .i64 6]) ∧ Below W.heap.size W w' := by
  go_enter Tryd.func46, Tryd.ntmps46
  go_wp2
  exact bodyPost_ret (v := .tuple #[ent false false false 0, .int .i64 6]) (by simp [results, Tryd.results46, go_sem]) rfl ⟨rfl, (Below.refl _ _).alloc (Nat.le_refl _) _⟩
set_option maxRecDepth 100000 in
set_option maxHeartbeats 1000000 in
theorem rget_odd (a : Int) (W : World) (h0 : 0 ≤ a) (h2 : a < 262144) (h3 : (a / 8 % 32 != 0) = true) :
    Calls Tryd.prog 46 #[.int .u32 a] W fun e w' => e = .returned (.tuple #[ent false false false 0, .int .i64 6]) ∧ Below W.heap.size W w' := by
  go_enter Tryd.func46, Tryd.ntmps46
  go_wp2
  exact bodyPost_ret (v := .tuple #[ent false false false 0, .int .i64 6]) (by simp [results, Tryd.results46, go_sem]) rfl ⟨rfl, (Below.refl _ _).alloc (Nat.le_refl _) _⟩
set_option maxRecDepth 100000 in
set_option maxHeartbeats 2000000 in
theorem rget_yes (a : Int) (p w c : Bool) (W : World) (h0 : 0 ≤ a) (hp : a % 2 = bit p) (hw : a / 2 % 2 = bit w) (hc : a / 4 % 2 = bit c) (h2 : a < 262144) (h3 : a / 8 % 32 = 0) (hok : okE p w c (a / 256) = true) :
    Calls Tryd.prog 46 #[.int .u32 a] W fun e w' => e = .returned (.tuple #[ent p w c (a / 256), .int .i64 0]) ∧ Below W.heap.size W w' := by
  have q0 : (a % 2 == 1) = p := by cases p <;> simp [bit] at hp <;> (rw [hp]; rfl)
  have q1 : (a / 2 % 2 == 1) = w := by cases w <;> simp [bit] at hw <;> (rw [hw]; rfl)
  have q2 : (a / 4 % 2 == 1) = c := by cases c <;> simp [bit] at hc <;> (rw [hc]; rfl)
  have HK := Lib.hid hok
  clear hp hw hc hok
  go_enter Tryd.func46, Tryd.ntmps46
  go_wp2_with fail
  refine (rcheck_yes p w c _ _ HK.out).mono ?_
  rintro e w5 ⟨rfl, hb⟩
  obtain ⟨ke, kr, kf, hB⟩ := get_box (N := 0) hb
  have e0 := (ke 0).trans rfl
  have e1 := (ke 1).trans rfl
  have e2 := (ke 2).trans rfl
  have e3 := (ke 3).trans rfl
  have r0 := (kr 0).trans rfl
  have r1 := (kr 1).trans rfl
  have r2 := (kr 2).trans rfl
  have r3 := (kr 3).trans rfl
  have f0 := kf 0
  have f1 := kf 1
  have f2 := kf 2
  have f3 := kf 3
  have HB := Lib.hid hB
  clear hb ke kr kf hB
  go_wp2
  exact bodyPost_ret (v := .tuple #[ent p w c (a / 256), .int .i64 0]) (by simp [results, Tryd.results46, go_sem, r0, r1, r2, r3]) rfl ⟨rfl, below_four HB.out _ _ _ _⟩
set_option maxRecDepth 100000 in
set_option maxHeartbeats 2000000 in
theorem rget_no (a : Int) (p w c : Bool) (W : World) (h0 : 0 ≤ a) (hp : a % 2 = bit p) (hw : a / 2 % 2 = bit w) (hc : a / 4 % 2 = bit c) (h2 : a < 262144) (h3 : a / 8 % 32 = 0) (hok : okE p w c (a / 256) = false) :
    Calls Tryd.prog 46 #[.int .u32 a] W fun e w' => e = .returned (.tuple #[ent false false false 0, .int .i64 6]) ∧ Below W.heap.size W w' := by
  have q0 : (a % 2 == 1) = p := by cases p <;> simp [bit] at hp <;> (rw [hp]; rfl)
  have q1 : (a / 2 % 2 == 1) = w := by cases w <;> simp [bit] at hw <;> (rw [hw]; rfl)
  have q2 : (a / 4 % 2 == 1) = c := by cases c <;> simp [bit] at hc <;> (rw [hc]; rfl)
  have HK := Lib.hid hok
  clear hp hw hc hok
  go_enter Tryd.func46, Tryd.ntmps46
  go_wp2_with fail
  refine (rcheck_no p w c _ _ HK.out).mono ?_
  rintro e w5 ⟨rfl, hb⟩
  obtain ⟨ke, kr, kf, hB⟩ := get_box (N := 0) hb
  have e0 := (ke 0).trans rfl
  have e1 := (ke 1).trans rfl
  have e2 := (ke 2).trans rfl
  have e3 := (ke 3).trans rfl
  have r0 := (kr 0).trans rfl
  have r1 := (kr 1).trans rfl
  have r2 := (kr 2).trans rfl
  have r3 := (kr 3).trans rfl
  have f0 := kf 0
  have f1 := kf 1
  have f2 := kf 2
  have f3 := kf 3
  have HB := Lib.hid hB
  clear hb ke kr kf hB
  go_wp2
  exact bodyPost_ret (v := .tuple #[ent false false false 0, .int .i64 6]) (by simp [results, Tryd.results46, go_sem, r0, r1, r2, r3]) rfl ⟨rfl, below_four HB.out _ _ _ _⟩

end Go.Proofs.YthkfffficobbjaaDoor
