/- Texts of mine, joined: S48 S49. What each says and under which conditions stands at its head, below. -/
import Derived.Test.YtfpcoomkbmfchaaGreatDoorHR
import Derived.Test.YtfpcoomkbmfchaaGreatDoorHT
/- What the calls of package space answer where there are no spaces. No condition. -/
namespace Go.Proofs.YtfpcoomkbmfchaaGreatDoor
open Go.RowKit Go.Maps
set_option maxRecDepth 100000

theorem changeNo (p : Option Addr) (i : Int) (k : Nat) (caps : Array Value) (w : World) (h : NoSpc w p) : Calls Tryz.prog 50 #[.pointer p, .int .i64 i, .func (.func k) #[] caps] w fun e w' => e = .returned (.tuple #[.pointer none, .int .i64 1]) ∧ Below w.heap.size w w' := by
  have HF := Lib.hid (find_noS p i w h)
  clear h
  go_enter Tryz.func50, Tryz.ntmps50
  go_wp2_with fail
  refine HF.out.mono ?_
  rintro e w1 ⟨rfl, hb⟩
  have B := Lib.hid hb
  clear hb
  go_wp2
  go_ret2
  exact ⟨rfl, B.out⟩
theorem openNo (p : Option Addr) (i : Int) (w : World) (h : NoSpc w p) : Calls Tryz.prog 13 #[.pointer p, .int .i64 i] w fun e w' => e = .returned (.int .i64 1) ∧ Below w.heap.size w w' := by
  have HF := Lib.hid (askS_one p false i w h.there (er := 1) rfl)
  clear h
  go_enter Tryz.func13, Tryz.ntmps13
  go_wp2_with fail
  refine HF.out.mono ?_
  rintro e w1 ⟨rfl, hb⟩
  have B := Lib.hid hb
  clear hb
  go_wp2
  go_ret
  exact ⟨rfl, B.out⟩
theorem closeNo (p : Option Addr) (i : Int) (w : World) (h : NoSpc w p) : Calls Tryz.prog 14 #[.pointer p, .int .i64 i] w fun e w' => e = .returned (.int .i64 1) ∧ Below w.heap.size w w' := by
  have HF := Lib.hid (find_noS p i w h)
  clear h
  go_enter Tryz.func14, Tryz.ntmps14
  go_wp2_with fail
  refine HF.out.mono ?_
  rintro e w1 ⟨rfl, hb⟩
  have B := Lib.hid hb
  clear hb
  go_wp2
  go_ret
  exact ⟨rfl, B.out⟩
theorem forkNo (p : Option Addr) (i j : Int) (w : World) (h : NoSpc w p) : Calls Tryz.prog 15 #[.pointer p, .int .i64 i, .int .i64 j] w fun e w' => e = .returned (.int .i64 1) ∧ Below w.heap.size w w' := by
  have HF := Lib.hid (askS_two p false i j w h.there (er := 1) rfl)
  clear h
  go_enter Tryz.func15, Tryz.ntmps15
  go_wp2_with fail
  refine HF.out.mono ?_
  rintro e w1 ⟨rfl, hb⟩
  have B := Lib.hid hb
  clear hb
  go_wp2
  go_ret
  exact ⟨rfl, B.out⟩
theorem loadNo (p : Option Addr) (i va : Int) (w : World) (h : NoSpc w p) : Calls Tryz.prog 12 #[.pointer p, .int .i64 i, .int .u32 va] w fun e w' => e = .returned (.tuple #[.int .u32 0, .int .i64 1]) ∧ Below w.heap.size w w' := by
  have HF := Lib.hid (find_noS p i w h)
  clear h
  go_enter Tryz.func12, Tryz.ntmps12
  go_wp2_with fail
  refine HF.out.mono ?_
  rintro e w1 ⟨rfl, hb⟩
  have B := Lib.hid hb
  clear hb
  go_wp2
  go_ret2
  exact ⟨rfl, B.out⟩
theorem storeNo (p : Option Addr) (i va x : Int) (w : World) (h : NoSpc w p) : Calls Tryz.prog 19 #[.pointer p, .int .i64 i, .int .u32 va, .int .u32 x] w fun e w' => e = .returned (.int .i64 1) ∧ Below w.heap.size w w' := by
  have HF := Lib.hid (find_noS p i w h)
  clear h
  go_enter Tryz.func19, Tryz.ntmps19
  go_wp2_with fail
  refine HF.out.mono ?_
  rintro e w1 ⟨rfl, hb⟩
  have B := Lib.hid hb
  clear hb
  go_wp2
  go_ret
  exact ⟨rfl, B.out⟩
theorem reachNo (p : Option Addr) (i va n : Int) (b : Bool) (w : World) (h : NoSpc w p) : Calls Tryz.prog 20 #[.pointer p, .int .i64 i, .int .u32 va, .int .i64 n, .bool b] w fun e w' => e = .returned (.int .i64 1) ∧ Below w.heap.size w w' := by
  have HF := Lib.hid (askS_one p false i w h.there (er := 1) rfl)
  clear h
  go_enter Tryz.func20, Tryz.ntmps20
  go_wp2_with fail
  refine HF.out.mono ?_
  rintro e w1 ⟨rfl, hb⟩
  have B := Lib.hid hb
  clear hb
  go_wp2
  go_ret
  exact ⟨rfl, B.out⟩
theorem areasNo (p : Option Addr) (i : Int) (w : World) (h : NoSpc w p) : Calls Tryz.prog 21 #[.pointer p, .int .i64 i] w fun e w' => e = .returned (.slice none 0 0) ∧ Below w.heap.size w w' := by
  have HF := Lib.hid (find_noS p i w h)
  clear h
  go_enter Tryz.func21, Tryz.ntmps21
  go_wp2_with fail
  refine HF.out.mono ?_
  rintro e w1 ⟨rfl, hb⟩
  have B := Lib.hid hb
  clear hb
  go_wp2
  go_ret
  exact ⟨rfl, B.out⟩
theorem mappedNo (p : Option Addr) (i : Int) (w : World) (h : NoSpc w p) : Calls Tryz.prog 22 #[.pointer p, .int .i64 i] w fun e w' => e = .returned (.slice none 0 0) ∧ Below w.heap.size w w' := by
  have HF := Lib.hid (find_noS p i w h)
  clear h
  go_enter Tryz.func22, Tryz.ntmps22
  go_wp2_with fail
  refine HF.out.mono ?_
  rintro e w1 ⟨rfl, hb⟩
  have B := Lib.hid hb
  clear hb
  go_wp2
  go_ret
  exact ⟨rfl, B.out⟩
theorem growNo (p : Option Addr) (i x y : Int) (d : Bool) (w : World) (h : NoSpc w p) : Calls Tryz.prog 16 #[.pointer p, .int .i64 i, .agg #[.int .i64 x, .int .i64 y, .bool d]] w fun e w' => e = .returned (.int .i64 1) ∧ Below w.heap.size w w' := by
  have hmf : ∀ (fn : Fn) (first cap : Array Value) (w : World), (Instr.makeFunc fn first cap).run Tryz.prog w = .ok (.func fn first cap) w := fun _ _ _ _ => rfl
  obtain ⟨w1, hw1⟩ : ∃ w1, w1 = w.alloc (.cells #[.int .i64 x, .int .i64 y, .bool d] 23) := ⟨_, rfl⟩
  have B1 : Hid (Below w.heap.size w w1) := Lib.hid (by rw [hw1]; exact (Below.refl _ _).alloc (Nat.le_refl _) _)
  have CB := Lib.hid (changeNo p i 51 #[.pointer (some ⟨w.heap.size, 0, none⟩)] w1 (h.step B1.out))
  clear h
  subst hw1
  go_enter Tryz.func16, Tryz.ntmps16
  go_wp2_with fail
  refine CB.out.mono ?_
  rintro e w2 ⟨rfl, hb⟩
  have B := Lib.hid (B1.out.trans (hb.mono B1.out.size))
  have B3 := Lib.hid (B.out.alloc B.out.size (.cells #[.pointer none] 83))
  clear hb
  go_wp2_with fail
  go_ret
  exact ⟨rfl, B.out⟩
theorem shrinkNo (p : Option Addr) (i x y : Int) (w : World) (h : NoSpc w p) : Calls Tryz.prog 17 #[.pointer p, .int .i64 i, .int .i64 x, .int .i64 y] w fun e w' => e = .returned (.int .i64 1) ∧ Below w.heap.size w w' := by
  have hmf : ∀ (fn : Fn) (first cap : Array Value) (w : World), (Instr.makeFunc fn first cap).run Tryz.prog w = .ok (.func fn first cap) w := fun _ _ _ _ => rfl
  obtain ⟨w1, hw1⟩ : ∃ w1, w1 = (w.alloc (.cells #[.int .i64 x] 3)).alloc (.cells #[.int .i64 y] 3) := ⟨_, rfl⟩
  have B1 : Hid (Below w.heap.size w w1) := Lib.hid (by rw [hw1]; exact below_two _ _ _)
  have CB := Lib.hid (changeNo p i 53 #[.pointer (some ⟨w.heap.size, 0, none⟩), .pointer (some ⟨w.heap.size + 1, 0, none⟩)] w1 (h.step B1.out))
  clear h
  subst hw1
  go_enter Tryz.func17, Tryz.ntmps17
  go_wp2_with fail
  refine CB.out.mono ?_
  rintro e w2 ⟨rfl, hb⟩
  have B := Lib.hid (B1.out.trans (hb.mono B1.out.size))
  have B3 := Lib.hid (B.out.alloc B.out.size (.cells #[.pointer none] 83))
  clear hb
  go_wp2_with fail
  go_ret
  exact ⟨rfl, B.out⟩
theorem protectNo (p : Option Addr) (i x y : Int) (b : Bool) (w : World) (h : NoSpc w p) : Calls Tryz.prog 18 #[.pointer p, .int .i64 i, .int .i64 x, .int .i64 y, .bool b] w fun e w' => e = .returned (.int .i64 1) ∧ Below w.heap.size w w' := by
  have hmf : ∀ (fn : Fn) (first cap : Array Value) (w : World), (Instr.makeFunc fn first cap).run Tryz.prog w = .ok (.func fn first cap) w := fun _ _ _ _ => rfl
  obtain ⟨w1, hw1⟩ : ∃ w1, w1 = (((w.alloc (.cells #[.pointer p] 28)).alloc (.cells #[.int .i64 x] 3)).alloc (.cells #[.int .i64 y] 3)).alloc (.cells #[.bool b] 4) := ⟨_, rfl⟩
  have B1 : Hid (Below w.heap.size w w1) := Lib.hid (by rw [hw1]; exact (heap4 _ _ _ _ _).2.2.2.2)
  have u5 : w1.cell? ⟨w.heap.size, 0, none⟩ = some (.pointer p) := (cells_one (by rw [hw1]; exact (heap4 _ _ _ _ _).1)).1
  have CB := Lib.hid (changeNo p i 56 #[.pointer (some ⟨w.heap.size + 1, 0, none⟩), .pointer (some ⟨w.heap.size + 2, 0, none⟩), .pointer (some ⟨w.heap.size + 3, 0, none⟩)] w1 (h.step B1.out))
  clear h
  subst hw1
  go_enter Tryz.func18, Tryz.ntmps18
  go_wp2_with fail
  refine CB.out.mono ?_
  rintro e w2 ⟨rfl, hb⟩
  have B := Lib.hid (B1.out.trans (hb.mono B1.out.size))
  have B3 := Lib.hid (B.out.alloc B.out.size (.cells #[.pointer none] 83))
  clear hb
  go_wp2_with fail
  go_ret
  exact ⟨rfl, B3.out⟩
end Go.Proofs.YtfpcoomkbmfchaaGreatDoor

/- What package space's New answers where there is no memory, pool, budget, partition, or too few frames. Condition: the listed tables read as laid. -/
namespace Go.Proofs.YtfpcoomkbmfchaaGreatDoor
open Go.RowKit Go.Maps
set_option maxRecDepth 100000

set_option maxHeartbeats 2000000 in
theorem newS_bad {w : World} {m p : Option Addr} {k : Int} {bb bm : Nat} {Pb : Pt} {q er : Int} (hB : BudAt w bb bm Pb [(1, 0, q, 0)]) (hP : ∀ W, Below w.heap.size w W → Calls Tryz.prog 66 #[.pointer m, .pointer p, .int .i64 k] W fun e w' => e = .returned (.tuple #[.pointer none, .int .i64 er]) ∧ Below W.heap.size W w') (hne : (er != 0) = true) :
    Calls Tryz.prog 26 #[.pointer m, .pointer p, .int .i64 k, .pointer (some ⟨bb, 0, none⟩)] w fun e w' => e = .returned (.tuple #[.pointer none, .int .i64 er]) ∧ Below w.heap.size w w' := by
  have AL := Lib.hid (allm11_ok hB)
  have PN := Lib.hid hP
  clear hB hP
  go_enter Tryz.func26, Tryz.ntmps26
  go_wp2_with fail
  refine AL.out.mono ?_
  rintro e w1 ⟨v, rfl, ho, hb⟩
  have B1 := Lib.hid hb
  obtain ⟨a, cp, rfl⟩ := ownsForm ho
  clear ho hb
  simp only [List.length_singleton]
  go_wp2_with fail
  refine (PN.out w1 B1.out).mono ?_
  rintro e w2 ⟨rfl, hb⟩
  have B2 := Lib.hid (B1.out.trans (hb.mono B1.out.size))
  clear hb
  go_wp2_with fail
  go_ret2
  exact ⟨rfl, B2.out⟩
theorem newS_nobud (w : World) (m p : Option Addr) (k : Int) : Calls Tryz.prog 26 #[.pointer m, .pointer p, .int .i64 k, .pointer none] w fun e w' => e = .returned (.tuple #[.pointer none, .int .i64 1]) ∧ Below w.heap.size w w' := by
  have AL := Lib.hid (allm11_no none w (Or.inl rfl))
  go_enter Tryz.func26, Tryz.ntmps26
  go_wp2_with fail
  refine AL.out.mono ?_
  rintro e w1 ⟨rfl, hb⟩
  have B1 := Lib.hid hb
  clear hb
  go_wp2_with fail
  go_ret2
  exact ⟨rfl, B1.out⟩
set_option maxHeartbeats 4000000 in
theorem newS_few {W0 w : World} {X : PIx} {n lo hi q bb bm : Nat} {Pb : Pt} {T : List (Nat × Nat)} (h : OwnPool W0 w X (List.replicate (n * 32) 0) R0) (hw : LaidW W0) (hl : lo < hi ∧ hi ≤ n) (hn : n ≤ 1024) (hX : X.n = n) (hP : X.P = partsS lo hi T) (hq : hi - lo < q)
    (hB : BudAt w bb bm Pb [(1, 0, (q : Int), 0)]) :
    Calls Tryz.prog 26 #[.pointer (some ⟨X.mp, 0, none⟩), .pointer (some ⟨X.pb, 0, none⟩), .int .i64 0, .pointer (some ⟨bb, 0, none⟩)] w fun e w' => e = .returned (.tuple #[.pointer none, .int .i64 2]) ∧ Below w.heap.size w w' := by
  have AL := Lib.hid (allm11_ok hB)
  have MG := Lib.hid (show ∀ W, Below w.heap.size w W → _ from fun W hb => newmg_ok (h.step hb) hw (words_zeroS (n * 32)) (by rw [hP]; simp [partB]))
  have HH := Lib.hid (And.intro hl (And.intro hn (And.intro hX hP)))
  obtain ⟨c, hc⟩ : ∃ c, c = hi - lo := ⟨_, rfl⟩
  have HC := Lib.hid hc
  have d0 : decide ((c : Int) < (q : Int)) = true := decide_eq_true (by omega)
  clear hl hn hX hP hq hB h hc
  go_enter Tryz.func26, Tryz.ntmps26
  go_wp2_with fail
  refine AL.out.mono ?_
  rintro e w1 ⟨v, rfl, ho, hb⟩
  have B1 := Lib.hid hb
  have N1 := Lib.hid (NdSl.of_row ho)
  obtain ⟨a, cp, rfl, hg⟩ := N1.out
  obtain ⟨g, rfl, hg1, hg2⟩ := hg.resolve_left (by simp)
  have c2 : w1.cell? ⟨g, 2, none⟩ = some (.int .i64 (q : Int)) := (hg2 0 (by simp)).2.2.1
  have G1 := Lib.hid (And.intro hg1 c2)
  clear ho hb hg hg1 hg2 c2 N1
  simp only [List.length_singleton]
  go_wp2_with fail
  refine (MG.out w1 B1.out).mono ?_
  rintro e w2 ⟨tb, sb, rfl, hg, hb2, ht, hs⟩
  have B2 := Lib.hid (B1.out.trans (hb2.mono B1.out.size))
  have c2 : w2.cell? ⟨g, 2, none⟩ = some (.int .i64 (q : Int)) := (hb2.cell (p := ⟨g, 2, none⟩) G1.out.1).trans G1.out.2
  have SY := Lib.hid (SysS.start hg HH.out.1 HH.out.2.1 HH.out.2.2.1 HH.out.2.2.2)
  rw [← HC.out] at SY
  have LF := Lib.hid (SY.out.step (Below.refl _ _).drew).left
  have GL := Lib.hid (show g < w2.heap.size from Nat.lt_of_lt_of_le G1.out.1 hb2.size)
  clear hg hb2 ht hs
  go_wp2_with fail
  go_region_held3 (fun W => W.cell? ⟨g, 2, none⟩ = some (.int .i64 (q : Int))) (first | go_keep | exact c2)
    (first
      | ((go_at_call 32; with_reducible refine LF.out.mono ?_); rintro e w3 ⟨rfl, hb3⟩; have B3 : Hid (Below w2.heap.size w2 w3) := Lib.hid (drew_then hb3); have c2 : w3.cell? ⟨g, 2, none⟩ = some (.int .i64 (q : Int)) := (B3.out.cell (p := ⟨g, 2, none⟩) GL.out).trans c2; clear hb3))
  have lt := of_decide_eq_true d0
  all_goals
    first
      | (exfalso; omega)
      | (go_wp2_with fail
         go_ret2
         exact ⟨rfl, B2.out.trans (B3.out.mono B2.out.size)⟩)
      | (exfalso; have lt := of_decide_eq_true d0; omega)
      | (exfalso; have lt := of_decide_eq_true d0; simp_all)
end Go.Proofs.YtfpcoomkbmfchaaGreatDoor
