/- The contract of built, layer 3's laws: two memories with the same words. Conditions: the words to lay can be read. -/
import Derived.Test.YthkfffficobbjaaDoorK8
namespace Go.Proofs.YthkfffficobbjaaDoor
open Go.RowKit
set_option maxRecDepth 100000

/-- A slice of words and their places: each one's three cells. -/
abbrev CellD := Int × Int × Int
structure CellsAt (w : World) (v : Value) (S : List CellD) : Prop where
  at' : ∃ a c, v = .slice a S.length c ∧ (S = [] ∨ ∃ b o, a = some ⟨b, o, none⟩ ∧ b < w.heap.size ∧ ∀ i, i < S.length →
    w.cell? ⟨b, o + i * 3, none⟩ = some (.int .i64 (S.getD i default).1) ∧ w.cell? ⟨b, o + i * 3 + 1, none⟩ = some (.int .i64 (S.getD i default).2.1) ∧ w.cell? ⟨b, o + i * 3 + 2, none⟩ = some (.int .u32 (S.getD i default).2.2))
  words : ∀ d ∈ S, 0 ≤ d.2.2 ∧ d.2.2 < 4294967296

/-- A word is put, if its place is one of the memory. -/
def setAt (n : Nat) (L : List Int) (d : CellD) : List Int := if okFQ n d.1 d.2.1 then L.set (idx d.1 d.2.1) d.2.2 else L
def layL (n : Nat) (S : List CellD) : List Int := S.foldl (setAt n) (List.replicate (n * 32) 0)
theorem words_set {L : List Int} (h : Words L) (i : Nat) {v : Int} (h0 : 0 ≤ v) (h1 : v < 4294967296) : Words (L.set i v) := by
  intro j
  by_cases hi : i < L.length
  · rw [getD_set L i j v hi]
    by_cases hj : i = j
    · rw [if_pos hj]; exact ⟨h0, h1⟩
    · rw [if_neg hj]; exact h j
  · rw [List.set_eq_of_length_le (by omega)]; exact h j
theorem words_setAt {n : Nat} {L : List Int} (h : Words L) {d : CellD} (hd : 0 ≤ d.2.2 ∧ d.2.2 < 4294967296) : Words (setAt n L d) := by
  unfold setAt
  split
  · exact words_set h _ hd.1 hd.2
  · exact h
theorem words_foldl {n : Nat} : ∀ (S : List CellD) (L : List Int), Words L → (∀ d ∈ S, 0 ≤ d.2.2 ∧ d.2.2 < 4294967296) → Words (S.foldl (setAt n) L)
  | [], _, h, _ => h
  | d :: S, L, h, hd => words_foldl S (setAt n L d) (words_setAt h (hd d (by simp))) (fun e he => hd e (by simp [he]))
theorem words_lay {n : Nat} {S : List CellD} (hd : ∀ d ∈ S, 0 ≤ d.2.2 ∧ d.2.2 < 4294967296) : Words (layL n S) :=
  words_foldl S _ (fun i => by rw [replicate_get]; omega) hd
theorem lay_take {n k : Nat} {S : List CellD} (hk : k < S.length) : layL n (S.take (k + 1)) = setAt n (layL n (S.take k)) (S.getD k default) := by
  unfold layL
  rw [List.take_add_one, List.getElem?_eq_getElem hk, List.foldl_append]
  simp [List.getD_eq_getElem?_getD, hk]

/-- Both sides write the same. -/
theorem pair_set (mp fb rp rb n : Nat) (L : List Int) (f q v : Int) : ∃ k : Int, (∀ w, MemSt w mp fb n L → Calls Tryd.prog 27 #[.pointer (some ⟨mp, 0, none⟩), .int .i64 f, .int .i64 q, .int .u32 v] w fun e w' => e = .returned (.int .i64 k) ∧ Puts w w' mp fb n (setAt n L (f, q, v))) ∧
    (∀ w, RefSt w rp rb n L → Calls Tryd.prog 19 #[.pointer (some ⟨rp, 0, none⟩), .int .i64 f, .int .i64 q, .int .u32 v] w fun e w' => e = .returned (.int .i64 k) ∧ RPuts w w' rp rb n (setAt n L (f, q, v))) := by
  unfold setAt
  simp only
  by_cases h : okFQ n f q
  · refine ⟨0, fun w hw => ?_, fun w hw => ?_⟩
    · rw [if_pos h]; exact write_i mp fb n L f q v w hw h
    · rw [if_pos h]
      have h' := h
      unfold okFQ at h'
      obtain ⟨f', rfl⟩ := Int.eq_ofNat_of_zero_le h'.1
      obtain ⟨q', rfl⟩ := Int.eq_ofNat_of_zero_le h'.2.2.1
      exact rwrite_yes rp rb n L f' q' v w hw (by omega) (by omega)
  · refine ⟨2, fun w hw => ?_, fun w hw => ?_⟩
    · rw [if_neg h]; exact (write_bad mp fb n L f q v w hw h).mono fun e w' ⟨he, hb⟩ => ⟨he, Puts.stay hw hb⟩
    · rw [if_neg h]; exact (rwrite_no rp rb n L f q v w hw h).mono fun e w' ⟨he, hb⟩ => ⟨he, RPuts.stay hw hb⟩

/-- Both memories, and the cell of built's result. -/
structure BuSt (W : World) (r mp fb rp rb n : Nat) (L K : List Int) (w : World) : Prop where
  duo : Duo W mp fb rp rb n L K w
  x1 : fb ≠ r
  x2 : rb ≠ r
  c : w.heap[r]? = some (.cells #[.slice none 0 0] 30 (0, 0))
theorem BuSt.step {W w w' : World} {r mp fb rp rb n : Nat} {L K : List Int} (h : BuSt W r mp fb rp rb n L K w) (k : Below w.heap.size w w') : BuSt W r mp fb rp rb n L K w' :=
  ⟨h.duo.step k, h.x1, h.x2, below_block k h.c⟩
theorem BuSt.put {W w w' : World} {r mp fb rp rb n : Nat} {L L' K : List Int} (h : BuSt W r mp fb rp rb n L K w) (k : Puts w w' mp fb n L') : BuSt W r mp fb rp rb n L' K w' :=
  ⟨h.duo.put k, h.x1, h.x2, (k.grown.block r (lt_of_block h.c) (fun e => h.x1 (Option.some.inj e).symm)).trans h.c⟩
theorem BuSt.rput {W w w' : World} {r mp fb rp rb n : Nat} {L K K' : List Int} (h : BuSt W r mp fb rp rb n L K w) (k : RPuts w w' rp rb n K') : BuSt W r mp fb rp rb n L K' w' :=
  ⟨h.duo.rput k, h.x1, h.x2, (k.grown.block r (lt_of_block h.c) (fun e => h.x2 (Option.some.inj e).symm)).trans h.c⟩
theorem BuSt.drew {W w : World} {r mp fb rp rb n : Nat} {L K : List Int} (h : BuSt W r mp fb rp rb n L K w) : BuSt W r mp fb rp rb n L K w.drew := h.step (Below.refl _ _).drew

/-- The result's cell is put. -/
theorem BuSt.done {W w : World} {mp fb rp rb n : Nat} {L K : List Int} (h : BuSt W W.heap.size mp fb rp rb n L K w) (u : Value) : Duo W mp fb rp rb n L K (w.setCell ⟨W.heap.size, 0, none⟩ u) := by
  have hg := grownBy_setCell w W.heap.size 0 u
  have hx : ∀ k o, w.heap[k]? = some o → k ≠ W.heap.size → (w.setCell ⟨W.heap.size, 0, none⟩ u).heap[k]? = some o := fun k o hk hne => (hg.block k (lt_of_block hk) (fun e => hne (Option.some.inj e))).trans hk
  have hm : mp ≠ W.heap.size := fun e => by have := h.duo.m.box; rw [e, h.c] at this; simp at this
  have hr : rp ≠ W.heap.size := fun e => by have := h.duo.r.box; rw [e, h.c] at this; simp at this
  exact ⟨⟨hx _ _ h.duo.m.box hm, hx _ _ h.duo.m.row h.x1, h.duo.m.len, h.duo.m.ne, h.duo.m.pos, h.duo.m.top⟩, ⟨hx _ _ h.duo.r.box hr, hx _ _ h.duo.r.row h.x2, h.duo.r.len, h.duo.r.ne, h.duo.r.top⟩,
    h.duo.below.setCell (p := ⟨W.heap.size, 0, none⟩) (Nat.le_refl _) _, h.duo.lf, h.duo.lr, h.duo.ne1, h.duo.ne2, h.duo.ne3⟩

def BuRel (W : World) (r mp fb rp rb n : Nat) (S : List CellD) (i : Value) (wr : World) : Prop := ∃ k : Nat, i = .int .i64 k ∧ k ≤ S.length ∧ BuSt W r mp fb rp rb n (layL n (S.take k)) (layL n (S.take k)) wr
/-- What built leaves. -/
def BuPost (W : World) (n : Nat) (L : List Int) (e : Ending) (w' : World) : Prop := ∃ mp fb rp rb, e = .returned (.tuple #[.pointer (some ⟨mp, 0, none⟩), refV rb n, .bool true]) ∧ Duo W mp fb rp rb n L L w'

set_option maxHeartbeats 4000000 in
theorem built_in (n : Nat) (v : Value) (S : List CellD) (W : World) (h1 : 1 ≤ n) (h2 : n ≤ 1024) (hl : S.length ≤ 1000000) (hS : CellsAt W v S) :
    Calls Tryd.prog 11 #[.int .i64 n, v] W (BuPost W n (layL n S)) := by
  obtain ⟨⟨a, c, rfl, hS⟩, _⟩ := hS
  have HS := Lib.hid hS
  clear hS
  have HL : Hid (S.length ≤ 1000000) := Lib.hid hl
  obtain ⟨m, hm⟩ : ∃ m, m = S.length := ⟨_, rfl⟩
  rw [← hm]
  rw [← hm] at hl
  have HmS := Lib.hid hm
  clear hm
  go_enter Tryd.func11, Tryd.ntmps11
  go_wp2_with fail
  obtain ⟨w0, hw0⟩ : ∃ w0, w0 = W.alloc (.cells #[.slice none 0 0] 30) := ⟨_, rfl⟩
  have B0 := Lib.hid (show Below W.heap.size W w0 by rw [hw0]; exact (Below.refl _ _).alloc (Nat.le_refl _) _)
  have C0 := Lib.hid (show w0.heap[W.heap.size]? = some (.cells #[.slice none 0 0] 30 (0, 0)) by rw [hw0]; exact heap_alloc_new W _)
  rw [← hw0]
  clear hw0
  refine (new_ok n w0 h1 h2).mono ?_
  rintro e w1 hp
  obtain ⟨mp, fb, rfl, ho⟩ := OwnMem.new hp
  have O1 := Lib.hid ho
  have C1 := Lib.hid (below_block ho.below C0.out)
  clear hp ho
  go_wp2_with fail
  refine (rnew_ok n w1 h1 h2).mono ?_
  rintro e w2 ⟨rb, rfl, hrb, hlb, hb⟩
  have hf1 := lt_of_block O1.out.st.row
  have hm1 := lt_of_block O1.out.st.box
  have hr1 := lt_of_block hrb
  have hz1 := hb.size
  have hz0 := O1.out.below.size
  have hc0 := lt_of_block C0.out
  have hz := B0.out.size
  have D : BuSt W W.heap.size mp fb w2.heap.size rb n (List.replicate (n * 32) 0) (List.replicate (n * 32) 0) (w2.alloc (.cells #[.slice (some ⟨rb, 0, none⟩) (n * 32) (n * 32)] 30)) :=
    have hb2 := (Below.refl w2.heap.size w2).alloc (Nat.le_refl _) (.cells #[.slice (some ⟨rb, 0, none⟩) (n * 32) (n * 32)] 30)
    have O2 := (O1.out.step hb).step hb2
    have l1 := O1.out.lf
    ⟨⟨O2.st, ⟨heap_alloc_new _ _, below_block hb2 hrb, List.length_replicate, by omega, by omega⟩, B0.out.trans (O2.below.mono hz), by omega, by omega, by omega, by omega, by omega⟩, by omega, by omega, below_block hb2 (below_block hb C1.out)⟩
  have D1 := Lib.hid D
  clear D hrb hlb hb hf1 hm1 hr1 hz1 hz0 hc0 hz O1 B0 C0 C1
  go_wp2_with fail
  generalize w2.heap.size = rp at *
  go_loopw [11] (fun i wr => BuRel W W.heap.size mp fb rp rb n S i wr) (fun i _ => (m - (intOf i).toNat))
  case atStart => exact ⟨0, rfl, Nat.zero_le _, D1.out⟩
  case round =>
    obtain ⟨k, rfl, hk, hd⟩ := hrel
    have D2 := Lib.hid hd
    clear hd
    rw [← HmS.out] at hk
    by_cases hlt : k < m
    · obtain ⟨b, o, rfl, hbW, hc⟩ := HS.out.resolve_left (by intro e; have := HmS.out; rw [e] at this; simp at this; omega)
      obtain ⟨c0, c1, c2⟩ := hc k (by have := HmS.out; omega)
      have ee : ∀ (w' : World), Below W.heap.size W w' → ∀ j, w'.cell? ⟨b, j, none⟩ = W.cell? ⟨b, j, none⟩ := fun w' hb j => hb.cell (p := ⟨b, j, none⟩) hbW
      have EE := Lib.hid ee
      have hlay := Lib.hid (lay_take (n := n) (k := k) (S := S) (by have := HmS.out; omega))
      generalize S.getD k default = d at *
      obtain ⟨x, y, z⟩ := d
      obtain ⟨er, h3, h4⟩ := pair_set mp fb rp rb n (layL n (S.take k)) x y z
      have H3 := Lib.hid h3
      have H4 := Lib.hid h4
      have CC := Lib.hid (And.intro c0 (And.intro c1 c2))
      simp only at c0 c1 c2
      rw [← EE.out wr D2.out.duo.below] at c0 c1 c2
      clear ee hc h3 h4 hbW
      go_wp2_with fail
      go_region_held3 (fun w' => w'.cell? ⟨b, o + k * 3, none⟩ = some (.int .i64 x) ∧ w'.cell? ⟨b, o + k * 3 + 1, none⟩ = some (.int .i64 y) ∧ w'.cell? ⟨b, o + k * 3 + 2, none⟩ = some (.int .u32 z)) (go_keep)
        (first
          | (go_at_call 27; refine (H3.out _ (by exact D2.out.drew.duo.m)).mono ?_; rintro e w3 ⟨rfl, hp⟩; have D3 := Lib.hid (D2.out.drew.put hp); clear hp; have c0 := (EE.out _ D3.out.duo.below _).trans CC.out.1; have c1 := (EE.out _ D3.out.duo.below _).trans CC.out.2.1; have c2 := (EE.out _ D3.out.duo.below _).trans CC.out.2.2))
      go_wp2_with fail
      go_region_held3 (fun w' => w'.cell? ⟨b, o + k * 3, none⟩ = some (.int .i64 x) ∧ w'.cell? ⟨b, o + k * 3 + 1, none⟩ = some (.int .i64 y) ∧ w'.cell? ⟨b, o + k * 3 + 2, none⟩ = some (.int .u32 z)) (go_keep)
        (first
          | (go_at_call 19; refine (H4.out _ (by exact D3.out.drew.duo.r)).mono ?_; rintro e w4 ⟨rfl, hp⟩; have D4 := Lib.hid (D3.out.drew.rput hp); clear hp; have c0 := (EE.out _ D4.out.duo.below _).trans CC.out.1; have c1 := (EE.out _ D4.out.duo.below _).trans CC.out.2.1; have c2 := (EE.out _ D4.out.duo.below _).trans CC.out.2.2))
      go_wp2
      go_roundw
      case rel => exact ⟨k + 1, by go_num, by have := HmS.out; omega, by rw [hlay.out]; exact D4.out⟩
      case measure => simp [intOf]; omega
    · obtain rfl : k = m := by omega
      clear hlt
      have cb := D2.out.duo.r.cellB
      have cr := cell_of_one D2.out.c
      have fr := free_of_one D2.out.c
      have hfull : layL n (S.take k) = layL n S := by rw [HmS.out, List.take_length]
      have HF := Lib.hid hfull
      clear hfull
      go_wp2_with fail
      go_still_tail 3, (by kernel_rfl)
      go_wp2
      have hP : BuPost W n (layL n S) (.returned (.tuple #[.pointer (some ⟨mp, 0, none⟩), refV rb n, .bool true])) (wr.drew.setCell ⟨W.heap.size, 0, none⟩ (.slice (some ⟨rb, 0, none⟩) (n * 32) (n * 32))) := by
        refine ⟨mp, fb, rp, rb, rfl, ?_⟩
        rw [← HF.out]
        exact D2.out.drew.done _
      refine bodyPost_ret (v := .tuple #[.pointer (some ⟨mp, 0, none⟩), refV rb n, .bool true]) ?_ rfl hP
      simp [results, Tryd.results11, go_sem, cr]
end Go.Proofs.YthkfffficobbjaaDoor
