/- The contracts of the document's Next and New, layer 20. Conditions: named in the theorems. -/
import Derived.Test.YtnapodeiigkebaaH27
namespace Go.Proofs.Ytnapodeiigkebaa
open Go.RowKit Go.Maps
set_option maxRecDepth 100000

theorem rnextH_ok {W w : World} {H : List Row} {cv lv : Value} {lvs : Nat → Value} {out : Nat → Nat} {T : Nat} {Q : Msgs} (h : RChAt W w H cv lv lvs out T Q) (part ch : Int) : Calls Try.prog 37 #[.agg #[cv, lv], .int .i64 part, .int .i64 ch] w fun e w' => e = .returned (.tuple #[.int .i64 ((recvM H Q part ch).length : Int), .int .i64 (recvE H Q part ch)]) ∧ Below w.heap.size w w' := by
  obtain ⟨w1, hw1⟩ : ∃ w1, w1 = w.alloc (.cells #[cv, lv] 41) := ⟨_, rfl⟩
  have B1 : Hid (Below w.heap.size w w1) := Lib.hid (by rw [hw1]; exact below_step1 _ _)
  have N1 : Hid (w1.heap[w.heap.size]? = some (.cells #[cv, lv] 41 (0, 0))) := Lib.hid (by rw [hw1]; exact heap_alloc_new _ _)
  have MY := Lib.hid (rmayH_ok (h.step B1.out) part ch false)
  have HW := Lib.hid hw1
  by_cases hm : mayE H part ch false = 0
  · obtain ⟨i, rfl, hi⟩ := inH_nat (mayE_in hm).1
    rw [hm] at MY
    obtain ⟨g, cap, rfl, -⟩ := h.ring i hi
    have RG : Hid (∀ V, Below w1.heap.size w1 V → V.cell? ⟨g, i * 4 + 2, none⟩ = some (lvs i) ∧ LsAt V (lvs i) (Q i)) := Lib.hid fun V hV => by
      have hV := h.step (B1.out.trans (hV.mono B1.out.size))
      obtain ⟨g', cap', e, hg⟩ := hV.ring i hi
      have e := (Value.slice.inj e).1
      injection e with e
      injection e with e
      subst e
      have := hg 2 (by decide)
      rw [rcell_2] at this
      exact ⟨this, hV.ls i hi⟩
    have i2 : i < H.length := hi
    have few := h.few
    have d2 : decide (H.length ≤ i) = false := decide_eq_false (by omega)
    have X2 : Hid (∀ V, Below w1.heap.size w1 V → V.cell? ⟨w.heap.size, 1, none⟩ = some (.slice (some ⟨g, 0, none⟩) H.length cap)) := Lib.hid fun V hV => by rw [cell_of_row _ _ _ _ _ _ (below_block hV N1.out)]; rfl
    clear hw1 h
    cases hQ : Q i with
    | nil =>
      have e1 : recvE H Q part (i : Int) = 12 := by unfold recvE; rw [if_pos hm, Int.toNat_natCast, if_pos hQ]
      have e2 : recvM H Q part (i : Int) = [] := by unfold recvM; rw [e1, if_neg (by decide)]
      rw [e1, e2]
      rw [hQ] at RG
      obtain ⟨la, lc, hl⟩ := (RG.out w1 (Below.refl _ _)).2.form
      rw [hl] at RG
      generalize H.length = n at *
      clear e1 e2 hl hQ hm hi
      go_enter Try.func37, Try.ntmps37
      go_wp2_with fail
      rw [← HW.out]
      refine MY.out.mono ?_
      rintro e w2 ⟨rfl, hb⟩
      have B2 := Lib.hid (B1.out.trans (hb.mono B1.out.size))
      have x1 := X2.out w2 hb
      have z2 : w2.cell? ⟨g, i * 4 + 2, none⟩ = some (.slice la 0 lc) := (RG.out w2 hb).1
      clear hb
      go_wp2
      go_ret2
      exact ⟨rfl, B2.out⟩
    | cons M R =>
      have e1 : recvE H Q part (i : Int) = 0 := by unfold recvE; rw [if_pos hm, Int.toNat_natCast, if_neg (by rw [hQ]; simp)]
      have e2 : recvM H Q part (i : Int) = M := by unfold recvM; rw [e1, if_pos rfl, Int.toNat_natCast, hQ]; rfl
      rw [e1, e2]
      rw [hQ] at RG
      obtain ⟨la, lc, hl⟩ := (RG.out w1 (Below.refl _ _)).2.form
      rw [hl] at RG
      have RG2 : Hid (∀ V, Below w1.heap.size w1 V → ∃ b o u, la = some ⟨b, o, none⟩ ∧ V.cell? ⟨b, o, none⟩ = some u ∧ MsgV V u M) := Lib.hid fun V hV => by
        obtain ⟨b, o, u, e, h1, h2⟩ := (RG.out V hV).2.at_ 0 (by simp)
        exact ⟨b, o, u, e, h1, by simpa using h2⟩
      generalize H.length = n at *
      have ne0 : ((R.length : Int) + 1 == 0) = false := by simp; omega
      obtain ⟨p, hp⟩ : ∃ p, p = R.length := ⟨_, rfl⟩
      clear e1 e2 hl hQ hm hi
      go_enter Try.func37, Try.ntmps37
      go_wp2_with fail
      rw [← HW.out]
      refine MY.out.mono ?_
      rintro e w2 ⟨rfl, hb⟩
      have B2 := Lib.hid (B1.out.trans (hb.mono B1.out.size))
      have x1 := X2.out w2 hb
      have z2 : w2.cell? ⟨g, i * 4 + 2, none⟩ = some (.slice la (R.length + 1) lc) := (RG.out w2 hb).1
      obtain ⟨b, o, u, rfl, c0, gm, uc, rfl, -⟩ := RG2.out w2 hb
      rw [← hp] at z2 ne0
      clear hb hp
      go_wp2
      go_ret2
      exact ⟨rfl, B2.out⟩
  · have e1 : recvE H Q part ch = mayE H part ch false := by unfold recvE; rw [if_neg hm]
    have e2 : recvM H Q part ch = [] := by unfold recvM; rw [e1, if_neg hm]
    rw [e1, e2]
    have g0 : (mayE H part ch false == 0) = false := by simpa using hm
    generalize mayE H part ch false = er at *
    clear hw1 h hm e1 e2
    go_enter Try.func37, Try.ntmps37
    go_wp2_with fail
    rw [← HW.out]
    refine MY.out.mono ?_
    rintro e w2 ⟨rfl, hb⟩
    have B2 := Lib.hid (B1.out.trans (hb.mono B1.out.size))
    clear hb
    go_wp2
    go_ret2
    exact ⟨rfl, B2.out⟩
end Go.Proofs.Ytnapodeiigkebaa
