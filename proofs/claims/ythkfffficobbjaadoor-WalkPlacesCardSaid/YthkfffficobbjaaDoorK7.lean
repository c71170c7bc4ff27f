/- The contracts of the document's own answers for layer 3: Page, At, Look. Conditions: its words lie in a block. -/
import Derived.Test.YthkfffficobbjaaDoorK6
namespace Go.Proofs.YthkfffficobbjaaDoor
open Go.RowKit
set_option maxRecDepth 100000

set_option maxHeartbeats 2000000 in
/-- The walk ends at the first table. -/
theorem rwalk_first (rb n : Nat) (root pg : Int) (p x c : Bool) (g : Int) (ok : Bool) (k : Int) (w : World) (h0 : 0 ≤ pg) (h1 : pg < 1024)
    (hs : ∀ W, Below w.heap.size w W → Calls Tryd.prog 41 #[refV rb n, .int .i64 root, .int .i64 (pg / 32)] W fun e w' => e = .returned (.tuple #[ent p x c g, .bool ok]) ∧ Below W.heap.size W w')
    (hcase : (ok = false ∧ k = 6) ∨ (ok = true ∧ p = false ∧ k = 2)) :
    Calls Tryd.prog 30 #[refV rb n, .int .i64 root, .int .i64 pg] w fun e w' => e = .returned (.tuple #[ent false false false 0, .int .u8 k]) ∧ Below w.heap.size w w' := by
  have HS := Lib.hid hs
  clear hs
  rcases hcase with ⟨rfl, rfl⟩ | ⟨rfl, rfl, rfl⟩
  all_goals
    go_enter Tryd.func30, Tryd.ntmps30
    go_wp2_with fail
    obtain ⟨w0, hw0⟩ : ∃ w0, w0 = (w.alloc (.cells #[.slice (some ⟨rb, 0, none⟩) (n * 32) (n * 32)] 30)).alloc (.cells #[.bool false, .bool false, .bool false, .int .i64 0] 39) := ⟨_, rfl⟩
    have S0 := Lib.hid (show RunSt w w0 rb n by rw [hw0]; exact RunSt.start w rb n)
    rw [← hw0]
    clear hw0
    refine (HS.out _ S0.out.below).mono ?_
    rintro e w1 ⟨rfl, hb⟩
    have S1 := Lib.hid (S0.out.step hb)
    clear hb
    obtain ⟨r0, r1, r2, r3, rf⟩ := box4 S1.out.res
    have f0 := rf 0
    have f1 := rf 1
    have f2 := rf 2
    have f3 := rf 3
    clear rf
    have hlt2 : w.heap.size + 1 < w1.heap.size := lt_of_block S1.out.res
    go_wp2
    exact bodyPost_ret (v := .tuple #[ent false false false 0, .int .u8 _]) (by simp [results, Tryd.results30, go_sem, r0, r1, r2, r3, hlt2]; done) rfl ⟨rfl, below_allocs (below_res S1.out.below _ _ _ _) _⟩
set_option maxHeartbeats 2000000 in
/-- The walk ends at the second table. -/
theorem rwalk_second (rb n : Nat) (root pg : Int) (x1 c1 : Bool) (g1 : Int) (p x c : Bool) (g : Int) (ok : Bool) (p' x' c' : Bool) (g' k : Int) (w : World) (h0 : 0 ≤ pg) (h1 : pg < 1024)
    (hs : ∀ W, Below w.heap.size w W → Calls Tryd.prog 41 #[refV rb n, .int .i64 root, .int .i64 (pg / 32)] W fun e w' => e = .returned (.tuple #[ent true x1 c1 g1, .bool true]) ∧ Below W.heap.size W w')
    (ht : ∀ W, Below w.heap.size w W → Calls Tryd.prog 41 #[refV rb n, .int .i64 g1, .int .i64 (pg % 32)] W fun e w' => e = .returned (.tuple #[ent p x c g, .bool ok]) ∧ Below W.heap.size W w')
    (hcase : (ok = false ∧ (p', x', c', g', k) = (false, false, false, 0, 6)) ∨ (ok = true ∧ p = false ∧ (p', x', c', g', k) = (false, false, false, 0, 3)) ∨ (ok = true ∧ p = true ∧ (p', x', c', g', k) = (p, x, c, g, 0))) :
    Calls Tryd.prog 30 #[refV rb n, .int .i64 root, .int .i64 pg] w fun e w' => e = .returned (.tuple #[ent p' x' c' g', .int .u8 k]) ∧ Below w.heap.size w w' := by
  have HS := Lib.hid hs
  have HT := Lib.hid ht
  clear hs ht
  simp only [Prod.mk.injEq] at hcase
  rcases hcase with ⟨rfl, rfl, rfl, rfl, rfl, rfl⟩ | ⟨rfl, rfl, rfl, rfl, rfl, rfl, rfl⟩ | ⟨rfl, rfl, rfl, rfl, rfl, rfl, rfl⟩
  all_goals
    go_enter Tryd.func30, Tryd.ntmps30
    go_wp2_with fail
    obtain ⟨w0, hw0⟩ : ∃ w0, w0 = (w.alloc (.cells #[.slice (some ⟨rb, 0, none⟩) (n * 32) (n * 32)] 30)).alloc (.cells #[.bool false, .bool false, .bool false, .int .i64 0] 39) := ⟨_, rfl⟩
    have S0 := Lib.hid (show RunSt w w0 rb n by rw [hw0]; exact RunSt.start w rb n)
    rw [← hw0]
    clear hw0
    refine (HS.out _ S0.out.below).mono ?_
    rintro e w1 ⟨rfl, hb⟩
    have S1 := Lib.hid (S0.out.step hb)
    clear hb
    have cb := S1.out.c
    have hlt2 : w.heap.size + 1 < w1.heap.size := lt_of_block S1.out.res
    have hlt : w.heap.size < w1.heap.size := by omega
    go_wp2_with fail
    refine (HT.out _ (S1.out.below.alloc S1.out.below.size _)).mono ?_
    rintro e w2 ⟨rfl, hb⟩
    have S2 := Lib.hid ((S1.out.step ((Below.refl _ _).alloc (Nat.le_refl _) _)).step hb)
    clear hb cb hlt2 hlt
    obtain ⟨r0, r1, r2, r3, rf⟩ := box4 S2.out.res
    have f0 := rf 0
    have f1 := rf 1
    have f2 := rf 2
    have f3 := rf 3
    clear rf
    have hlt3 : w.heap.size + 1 < w2.heap.size := lt_of_block S2.out.res
    go_wp2
    exact bodyPost_ret (v := .tuple #[ent _ _ _ _, .int .u8 _]) (by simp [results, Tryd.results30, go_sem, r0, r1, r2, r3, hlt3]; done) rfl ⟨rfl, below_allocs (below_res S2.out.below _ _ _ _) _⟩
set_option maxHeartbeats 1000000 in
theorem rwalk_any (rp rb n : Nat) (L : List Int) (root pg : Int) (w : World) (hW : Words L) (hr : RefSt w rp rb n L) (h0 : 0 ≤ pg) (h1 : pg < 1024) :
    Calls Tryd.prog 30 #[refV rb n, .int .i64 root, .int .i64 pg] w fun e w' => e = .returned (.tuple #[entV (pageE n L root pg).1, .int .u8 (pageE n L root pg).2]) ∧ Below w.heap.size w w' := by
  have hno : ∀ (f q : Int), entAt n L f q = none → ∀ W, Below w.heap.size w W → _ := fun f q he W hb => rentry_none rp rb n L f q W hW (hr.below hb) he
  have hso : ∀ (f q : Int) (p x c : Bool) (g : Int), entAt n L f q = some (p, x, c, g) → ∀ W, Below w.heap.size w W → _ := fun f q p x c g he W hb => rentry_some rp rb n L f q p x c g W hW (hr.below hb) he
  rcases pageE_cases n L root pg with ⟨a1, r⟩ | ⟨⟨p, x, c, g⟩, a1, a2, r⟩ | ⟨⟨p, x, c, g⟩, a1, a2, a3, r⟩ | ⟨⟨p, x, c, g⟩, ⟨p2, x2, c2, g2⟩, a1, a2, a3, a4, r⟩ | ⟨⟨p, x, c, g⟩, ⟨p2, x2, c2, g2⟩, a1, a2, a3, a4, r⟩
  all_goals rw [r]
  · exact rwalk_first rb n root pg _ _ _ _ _ 6 w h0 h1 (hno _ _ a1) (Or.inl ⟨rfl, rfl⟩)
  · exact rwalk_first rb n root pg _ _ _ _ _ 2 w h0 h1 (hso _ _ _ _ _ _ a1) (Or.inr ⟨rfl, a2, rfl⟩)
  · obtain rfl : p = true := a2
    exact rwalk_second rb n root pg x c g _ _ _ _ _ _ _ _ _ _ w h0 h1 (hso _ _ _ _ _ _ a1) (hno _ _ a3) (Or.inl ⟨rfl, rfl⟩)
  · obtain rfl : p = true := a2
    exact rwalk_second rb n root pg x c g _ _ _ _ _ _ _ _ _ _ w h0 h1 (hso _ _ _ _ _ _ a1) (hso _ _ _ _ _ _ a3) (Or.inr (Or.inl ⟨rfl, a4, rfl⟩))
  · obtain rfl : p = true := a2
    exact rwalk_second rb n root pg x c g _ _ _ _ _ _ _ _ _ _ w h0 h1 (hso _ _ _ _ _ _ a1) (hso _ _ _ _ _ _ a3) (Or.inr (Or.inr ⟨rfl, a4, rfl⟩))
end Go.Proofs.YthkfffficobbjaaDoor
