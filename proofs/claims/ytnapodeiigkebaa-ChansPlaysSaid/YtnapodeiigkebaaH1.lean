/- Words of a ring in a memory: the contracts of package chans' get and put of a place, as what tells and puts words. Conditions: the memory lies as New laid it; the words lie within it. -/
import Derived.Test.YtnapodeiigkebaaIT
import Derived.Test.YtnapodeiigkebaaGD8
namespace Go.Proofs.Ytnapodeiigkebaa
open Go.RowKit
set_option maxRecDepth 100000

/-- Words with so many others from a place on. -/
def mixL (L : List Int) (o N : Nat) (g : Nat → Int) : List Int := (List.range L.length).map fun k => if o ≤ k ∧ k < o + N then g (k - o) else L.getD k 0
theorem mixL_len (L : List Int) (o N : Nat) (g : Nat → Int) : (mixL L o N g).length = L.length := by simp [mixL]
theorem mixL_get (L : List Int) (o N : Nat) (g : Nat → Int) (k : Nat) (h : k < L.length) : (mixL L o N g).getD k 0 = if o ≤ k ∧ k < o + N then g (k - o) else L.getD k 0 := by
  simp [mixL, List.getD_eq_getElem?_getD, h]
theorem mixL_at {L : List Int} {o N : Nat} (g : Nat → Int) {i : Nat} (hi : i < N) (h : o + N ≤ L.length) : (mixL L o N g).getD (o + i) 0 = g i := by
  rw [mixL_get _ _ _ _ _ (by omega), if_pos (by omega), show o + i - o = i by omega]
theorem mixL_out {L : List Int} {o N : Nat} (g : Nat → Int) {k : Nat} (hk : k < o ∨ o + N ≤ k) : (mixL L o N g).getD k 0 = L.getD k 0 := by
  by_cases h : k < L.length
  · rw [mixL_get _ _ _ _ _ h, if_neg (by omega)]
  · simp only [List.getD_eq_getElem?_getD]
    rw [List.getElem?_eq_none (by rw [mixL_len]; omega), List.getElem?_eq_none (by omega)]
theorem mixL_ext {L M : List Int} (hl : L.length = M.length) (h : ∀ k, k < L.length → L.getD k 0 = M.getD k 0) : L = M := by
  refine List.ext_getElem hl fun i h1 h2 => ?_
  have := h i h1
  simpa [List.getD_eq_getElem?_getD, h1, h2] using this
theorem mixL_set {L : List Int} {o N : Nat} (g : Nat → Int) {i : Nat} (hi : i < N) (h : o + N ≤ L.length) (x : Int) : (mixL L o N g).set (o + i) x = mixL L o N (upG g i x) := by
  refine mixL_ext (by rw [List.length_set, mixL_len, mixL_len]) fun k hk => ?_
  rw [List.length_set, mixL_len] at hk
  rw [getD_set _ _ _ _ (by rw [mixL_len]; omega), mixL_get _ _ _ _ _ hk, mixL_get _ _ _ _ _ hk]
  unfold upG
  by_cases e : o + i = k
  · rw [if_pos e, if_pos (by omega), if_pos (by omega)]
  · rw [if_neg e]
    by_cases e2 : o ≤ k ∧ k < o + N
    · rw [if_pos e2, if_pos e2, if_neg (by omega)]
    · rw [if_neg e2, if_neg e2]
theorem mixL_self (L : List Int) (o N : Nat) : mixL L o N (fun j => L.getD (o + j) 0) = L := by
  refine mixL_ext (mixL_len _ _ _ _) fun k hk => ?_
  rw [mixL_len] at hk
  rw [mixL_get _ _ _ _ _ hk]
  by_cases e2 : o ≤ k ∧ k < o + N
  · rw [if_pos e2, show o + (k - o) = k by omega]
  · rw [if_neg e2]

/-- A place in a memory. -/
abbrev plc (mp fr : Nat) : Value := .agg #[.pointer (some ⟨mp, 0, none⟩), .int .i64 (fr : Int)]
theorem place_tdiv {i q r : Nat} (h : i = q * 32 + r) (hr : r < 32) : ((i : Int)).tdiv 32 = (q : Int) ∧ ((i : Int)).tmod 32 = (r : Int) := by
  rw [Int.tdiv_eq_ediv_of_nonneg (by omega), Int.tmod_eq_emod_of_nonneg (by omega)]
  omega
theorem get_okH (mp fb n fr i : Nat) (L : List Int) (w : World) (hm : MemSt w mp fb n L) (hi : fr * 32 + i < n * 32) :
    Calls Try.prog 46 #[plc mp fr, .int .i64 (i : Int)] w fun e w' => e = .returned (.int .u32 (L.getD (fr * 32 + i) 0)) ∧ Below w.heap.size w w' := by
  obtain ⟨q, r, hqr, hr⟩ : ∃ q r, i = q * 32 + r ∧ r < 32 := ⟨i / 32, i % 32, by omega, Nat.mod_lt _ (by decide)⟩
  obtain ⟨d1, d2⟩ := place_tdiv hqr hr
  have nt := hm.top
  have B1 := Lib.hid ((Below.refl w.heap.size w).alloc (Nat.le_refl _) (.cells #[.pointer (some ⟨mp, 0, none⟩), .int .i64 (fr : Int)] 91))
  have RD := read_i mp fb n L ((fr : Int) + (q : Int)) (r : Int) _ (hm.below B1.out) (by unfold okFQ; omega)
  rw [show idx ((fr : Int) + (q : Int)) (r : Int) = fr * 32 + i by unfold idx; omega] at RD
  have RD := Lib.hid RD
  have b1 : (fr : Int) + (q : Int) ≤ 1024 := by omega
  generalize L.getD (fr * 32 + i) 0 = x at RD ⊢
  clear hm hi hqr hr
  go_enter Try.func46, Try.ntmps46
  go_wp2_with fail
  refine RD.out.mono ?_
  rintro e w2 ⟨rfl, hb⟩
  have B2 := Lib.hid (B1.out.trans (hb.mono B1.out.size))
  clear hb
  go_wp2
  go_ret
  exact ⟨rfl, B2.out⟩
theorem put_okH (mp fb n fr i : Nat) (L : List Int) (x : Int) (w : World) (hm : MemSt w mp fb n L) (hi : fr * 32 + i < n * 32) :
    Calls Try.prog 44 #[plc mp fr, .int .i64 (i : Int), .int .u32 x] w fun e w' => e = .returned (.tuple #[]) ∧ Puts w w' mp fb n (L.set (fr * 32 + i) x) := by
  obtain ⟨q, r, hqr, hr⟩ : ∃ q r, i = q * 32 + r ∧ r < 32 := ⟨i / 32, i % 32, by omega, Nat.mod_lt _ (by decide)⟩
  obtain ⟨d1, d2⟩ := place_tdiv hqr hr
  have nt := hm.top
  have B1 := Lib.hid ((Below.refl w.heap.size w).alloc (Nat.le_refl _) (.cells #[.pointer (some ⟨mp, 0, none⟩), .int .i64 (fr : Int)] 91))
  have RD := write_i mp fb n L ((fr : Int) + (q : Int)) (r : Int) x _ (hm.below B1.out) (by unfold okFQ; omega)
  rw [show idx ((fr : Int) + (q : Int)) (r : Int) = fr * 32 + i by unfold idx; omega] at RD
  have RD := Lib.hid RD
  have b1 : (fr : Int) + (q : Int) ≤ 1024 := by omega
  generalize L.set (fr * 32 + i) x = M at RD ⊢
  clear hm hi hqr hr
  go_enter Try.func44, Try.ntmps44
  go_wp2_with fail
  refine RD.out.mono ?_
  rintro e w2 ⟨rfl, hb⟩
  have B2 := Lib.hid (hb.ahead B1.out)
  clear hb
  go_wp2
  go_end0
  exact ⟨rfl, B2.out⟩
/-- A memory that has such words from a frame on, and its own elsewhere. -/
def MixSt (L : List Int) (mp fb n fr N : Nat) (g : Nat → Int) (w : World) : Prop := MemSt w mp fb n (mixL L (fr * 32) N g) ∧ ∀ i, i < N → 0 ≤ g i ∧ g i < 4294967296
def memB (mp fb : Nat) : Nat → Prop := fun j => j = mp ∨ j = fb
theorem enters_getH (args : Array Value) (W : World) : (callFunc 46 args).run Try.prog W = .ok (.enter 46 args) W := enters Try.func46 rfl rfl args W
theorem enters_putH (args : Array Value) (W : World) : (callFunc 44 args).run Try.prog W = .ok (.enter 44 args) W := enters Try.func44 rfl rfl args W
theorem MemSt.stayH {V V' : World} {mp fb n : Nat} {L : List Int} (h : MemSt V mp fb n L) {S : Nat → Prop} (ho : Only V V' S) (h1 : ¬ S mp) (h2 : ¬ S fb) : MemSt V' mp fb n L := ⟨ho.kept h.box h1, ho.kept h.row h2, h.len, h.ne, h.pos, h.top⟩
section
variable {L : List Int} {mp fb n fr N : Nat}
theorem MixSt.keep : KeepG (MixSt L mp fb n fr N) (memB mp fb) N :=
  ⟨fun _ _ h _ e => e.elim (fun e => e ▸ lt_of_block h.1.box) (fun e => e ▸ lt_of_block h.1.row), fun _ _ _ h ho => ⟨h.1.stayH ho (fun e => e (Or.inl rfl)) (fun e => e (Or.inr rfl)), h.2⟩, fun _ _ h => h.2⟩
theorem MixSt.room {g : Nat → Int} {w : World} (h : MixSt L mp fb n fr N g w) : L.length = n * 32 := by have := h.1.len; rwa [mixL_len] at this
theorem MixSt.gets (hN : fr * 32 + N ≤ n * 32) : GetsG (MixSt L mp fb n fr N) N 46 #[plc mp fr] #[] :=
  ⟨enters_getH, fun g V i h hi => by
    have := get_okH mp fb n fr i _ V h.1 (by omega)
    rwa [mixL_at g hi (by rw [h.room]; omega)] at this⟩
theorem MixSt.puts (hN : fr * 32 + N ≤ n * 32) : PutsG (MixSt L mp fb n fr N) (memB mp fb) N 44 #[plc mp fr] #[] :=
  ⟨enters_putH, fun g V i x h hi h0 h1 => (put_okH mp fb n fr i _ x V h.1 (by omega)).mono fun e w' ⟨he, hp⟩ => ⟨he, ⟨by
    have := hp.st
    rwa [mixL_set g hi (by rw [h.room]; omega)] at this, fun j hj => by
    unfold upG
    split
    · exact ⟨h0, h1⟩
    · exact h.2 j hj⟩, Only.grown hp.grown (Or.inr rfl)⟩⟩
end
end Go.Proofs.Ytnapodeiigkebaa
