/- The contracts of the document's own answers for layer 3: entry, Page, At, Look. Conditions: its words lie in a block. -/
import Derived.Test.YthkfffficobbjaaDoorK5
namespace Go.Proofs.YthkfffficobbjaaDoor
open Go.RowKit
set_option maxRecDepth 100000

theorem rread_i (rp rb n : Nat) (L : List Int) (f q : Int) (w : World) (hr : RefSt w rp rb n L) (h : okFQ n f q) :
    Calls Tryd.prog 17 #[.agg #[.slice (some ⟨rb, 0, none⟩) (n * 32) (n * 32)], .int .i64 f, .int .i64 q] w fun e w' => e = .returned (.tuple #[.int .u32 (L.getD (idx f q) 0), .int .i64 0]) ∧ Below w.heap.size w w' := by
  have h' := h
  unfold okFQ at h'
  obtain ⟨f', rfl⟩ := Int.eq_ofNat_of_zero_le h'.1
  obtain ⟨q', rfl⟩ := Int.eq_ofNat_of_zero_le h'.2.2.1
  exact rread_yes rp rb n L f' q' w hr (by omega) (by omega)

/-- The document's own memory, by value. -/
abbrev refV (rb n : Nat) : Value := .agg #[.slice (some ⟨rb, 0, none⟩) (n * 32) (n * 32)]
/-- What lies behind the start of a call that boxes the memory and has an entry as its first result. -/
structure RunSt (w w1 : World) (rb n : Nat) : Prop where
  below : Below w.heap.size w w1
  box : w1.heap[w.heap.size]? = some (.cells #[.slice (some ⟨rb, 0, none⟩) (n * 32) (n * 32)] 30 (0, 0))
  res : w1.heap[w.heap.size + 1]? = some (.cells #[.bool false, .bool false, .bool false, .int .i64 0] 39 (0, 0))
theorem RunSt.start (w : World) (rb n : Nat) : RunSt w ((w.alloc (.cells #[.slice (some ⟨rb, 0, none⟩) (n * 32) (n * 32)] 30)).alloc (.cells #[.bool false, .bool false, .bool false, .int .i64 0] 39)) rb n :=
  ⟨below_two w _ _, heap_alloc2_old _ _ _, heap_alloc2_new _ _ _⟩
theorem RunSt.step {w w1 w2 : World} {rb n : Nat} (h : RunSt w w1 rb n) (hb : Below w1.heap.size w1 w2) : RunSt w w2 rb n := ⟨h.below.trans (hb.mono h.below.size), below_block hb h.box, below_block hb h.res⟩
theorem RunSt.c {w w1 : World} {rb n : Nat} (h : RunSt w w1 rb n) : w1.cell? ⟨w.heap.size, 0, none⟩ = some (.slice (some ⟨rb, 0, none⟩) (n * 32) (n * 32)) := by rw [cell_of_row w1 _ _ _ _ _ h.box]; rfl
/-- Four cells of the result, behind the box, are put. -/
theorem below_res {W w : World} (h : Below W.heap.size W w) (a b c d : Value) : Below W.heap.size W ((((w.setCell ⟨W.heap.size + 1, 0, none⟩ a).setCell ⟨W.heap.size + 1, 1, none⟩ b).setCell ⟨W.heap.size + 1, 2, none⟩ c).setCell ⟨W.heap.size + 1, 3, none⟩ d) :=
  (((h.setCell (p := ⟨W.heap.size + 1, 0, none⟩) (Nat.le_succ _) _).setCell (p := ⟨W.heap.size + 1, 1, none⟩) (Nat.le_succ _) _).setCell (p := ⟨W.heap.size + 1, 2, none⟩) (Nat.le_succ _) _).setCell (p := ⟨W.heap.size + 1, 3, none⟩) (Nat.le_succ _) _

set_option maxHeartbeats 1000000 in
theorem rentry_err (rb n : Nat) (f q k : Int) (w : World) (hk : (k != 0) = true)
    (hr : ∀ W, Below w.heap.size w W → Calls Tryd.prog 17 #[refV rb n, .int .i64 f, .int .i64 q] W fun e w' => e = .returned (.tuple #[.int .u32 0, .int .i64 k]) ∧ Below W.heap.size W w') :
    Calls Tryd.prog 41 #[refV rb n, .int .i64 f, .int .i64 q] w fun e w' => e = .returned (.tuple #[ent false false false 0, .bool false]) ∧ Below w.heap.size w w' := by
  have HR := Lib.hid hr
  clear hr
  go_enter Tryd.func41, Tryd.ntmps41
  go_wp2_with fail
  obtain ⟨w0, hw0⟩ : ∃ w0, w0 = (w.alloc (.cells #[.slice (some ⟨rb, 0, none⟩) (n * 32) (n * 32)] 30)).alloc (.cells #[.bool false, .bool false, .bool false, .int .i64 0] 39) := ⟨_, rfl⟩
  have S0 := Lib.hid (show RunSt w w0 rb n by rw [hw0]; exact RunSt.start w rb n)
  rw [← hw0]
  clear hw0
  refine (HR.out _ S0.out.below).mono ?_
  rintro e w1 ⟨rfl, hb⟩
  have S1 := Lib.hid (S0.out.step hb)
  clear hb
  obtain ⟨r0, r1, r2, r3, rf⟩ := box4 S1.out.res
  have f0 := rf 0
  have f1 := rf 1
  have f2 := rf 2
  have f3 := rf 3
  clear rf
  go_wp2
  exact bodyPost_ret (v := .tuple #[ent false false false 0, .bool false]) (by simp [results, Tryd.results41, go_sem, r0, r1, r2, r3]) rfl ⟨rfl, below_res S1.out.below _ _ _ _⟩
set_option maxHeartbeats 2000000 in
/-- The word is read: the entry that it says, if it may be. -/
theorem rentry_word (rb n : Nat) (f q a : Int) (p x c : Bool) (g k : Int) (w : World) (p' x' c' : Bool) (g' : Int) (ok : Bool) (hn : n ≤ 1024)
    (hr : ∀ W, Below w.heap.size w W → Calls Tryd.prog 17 #[refV rb n, .int .i64 f, .int .i64 q] W fun e w' => e = .returned (.tuple #[.int .u32 a, .int .i64 0]) ∧ Below W.heap.size W w')
    (hg : ∀ W, Calls Tryd.prog 46 #[.int .u32 a] W fun e w' => e = .returned (.tuple #[ent p x c g, .int .i64 k]) ∧ Below W.heap.size W w')
    (hcase : ((k != 0) = true ∧ (p', x', c', g', ok) = (false, false, false, 0, false)) ∨ (k = 0 ∧ p = true ∧ (n : Int) ≤ g ∧ (p', x', c', g', ok) = (false, false, false, 0, false)) ∨ (k = 0 ∧ p = true ∧ g < (n : Int) ∧ (p', x', c', g', ok) = (p, x, c, g, true)) ∨ (k = 0 ∧ p = false ∧ (p', x', c', g', ok) = (p, x, c, g, true))) :
    Calls Tryd.prog 41 #[refV rb n, .int .i64 f, .int .i64 q] w fun e w' => e = .returned (.tuple #[ent p' x' c' g', .bool ok]) ∧ Below w.heap.size w w' := by
  have HR := Lib.hid hr
  have HG := Lib.hid hg
  clear hr hg
  have hdiv : ((n : Int) * 32) / 32 = n := by omega
  simp only [Prod.mk.injEq] at hcase
  rcases hcase with ⟨hk, rfl, rfl, rfl, rfl, rfl⟩ | ⟨rfl, rfl, hd, rfl, rfl, rfl, rfl, rfl⟩ | ⟨rfl, rfl, hd, rfl, rfl, rfl, rfl, rfl⟩ | ⟨rfl, rfl, rfl, rfl, rfl, rfl, rfl⟩
  all_goals
    go_enter Tryd.func41, Tryd.ntmps41
    go_wp2_with fail
    obtain ⟨w0, hw0⟩ : ∃ w0, w0 = (w.alloc (.cells #[.slice (some ⟨rb, 0, none⟩) (n * 32) (n * 32)] 30)).alloc (.cells #[.bool false, .bool false, .bool false, .int .i64 0] 39) := ⟨_, rfl⟩
    have S0 := Lib.hid (show RunSt w w0 rb n by rw [hw0]; exact RunSt.start w rb n)
    rw [← hw0]
    clear hw0
    refine (HR.out _ S0.out.below).mono ?_
    rintro e w1 ⟨rfl, hb⟩
    have S1 := Lib.hid (S0.out.step hb)
    clear hb
    go_wp2_with fail
    refine (HG.out _).mono ?_
    rintro e w2 ⟨rfl, hb⟩
    have S2 := Lib.hid (S1.out.step hb)
    clear hb
    obtain ⟨r0, r1, r2, r3, rf⟩ := box4 S2.out.res
    have f0 := rf 0
    have f1 := rf 1
    have f2 := rf 2
    have f3 := rf 3
    clear rf
    have cb := S2.out.c
    have hlt2 : w.heap.size + 1 < w2.heap.size := lt_of_block S2.out.res
    have hlt : w.heap.size < w2.heap.size := by omega
    go_wp2
    exact bodyPost_ret (v := .tuple #[ent _ _ _ _, .bool _]) (by simp [results, Tryd.results41, go_sem, r0, r1, r2, r3, hlt2]; done) rfl ⟨rfl, below_allocs (below_res S2.out.below _ _ _ _) _⟩
theorem rentry_none (rp rb n : Nat) (L : List Int) (f q : Int) (w : World) (hW : Words L) (hr : RefSt w rp rb n L) (h : entAt n L f q = none) :
    Calls Tryd.prog 41 #[refV rb n, .int .i64 f, .int .i64 q] w fun e w' => e = .returned (.tuple #[ent false false false 0, .bool false]) ∧ Below w.heap.size w w' := by
  rcases entAt_none h with h1 | ⟨h1, h2⟩ | ⟨h1, ⟨p, x, c, g⟩, h2, h3⟩
  · exact rentry_err rb n f q 2 w rfl (fun W hb => rread_no _ n _ f q W hr.top h1)
  · exact rentry_word rb n f q _ _ _ _ _ 6 w _ _ _ _ _ hr.top (fun W hb => rread_i rp rb n L f q W (hr.below hb) h1) (fun W => rget_none _ W (hW _).1 h2) (Or.inl ⟨rfl, rfl⟩)
  · have hp : p = true := by
      cases p
      · have e := (decode_low h2).2.2 rfl
        simp only [z0, Prod.mk.injEq] at e
        simp only at h3
        unfold okFQ at h1
        omega
      · rfl
    exact rentry_word rb n f q _ p x c g 0 w _ _ _ _ _ hr.top (fun W hb => rread_i rp rb n L f q W (hr.below hb) h1) (fun W => rget_some _ _ W (hW _).1 h2) (Or.inr (Or.inl ⟨rfl, hp, h3, rfl⟩))
theorem rentry_some (rp rb n : Nat) (L : List Int) (f q : Int) (p x c : Bool) (g : Int) (w : World) (hW : Words L) (hr : RefSt w rp rb n L) (h : entAt n L f q = some (p, x, c, g)) :
    Calls Tryd.prog 41 #[refV rb n, .int .i64 f, .int .i64 q] w fun e w' => e = .returned (.tuple #[ent p x c g, .bool true]) ∧ Below w.heap.size w w' := by
  obtain ⟨h1, h2, h3⟩ := entAt_some h
  refine rentry_word rb n f q _ p x c g 0 w _ _ _ _ _ hr.top (fun W hb => rread_i rp rb n L f q W (hr.below hb) h1) (fun W => rget_some _ _ W (hW _).1 h2) (Or.inr (Or.inr ?_))
  cases p
  · exact Or.inr ⟨rfl, rfl, rfl⟩
  · exact Or.inl ⟨rfl, rfl, h3, rfl⟩
end Go.Proofs.YthkfffficobbjaaDoor
