/- The contracts of the document's outside and less of layer 14. Condition: the slice lies in memory. -/
import Derived.Test.YtmfpoagimedhnaaD11
import Derived.Test.YtmfpoagimedhnaaD6
import Derived.Laws.AppendOwnNone
namespace Go.Proofs.Ytmfpoagimedhnaa
open Go.RowKit Go.Maps
set_option maxRecDepth 100000

/-- A row of one's own, told as areas. -/
def OwnD (base : Nat) (w : World) (v : Value) (L : List Ar) : Prop := w.ownsRow base 32 3 v L.length (arsV L)
theorem OwnD.of {base : Nat} {w : World} {v : Value} {L : List Ar} (h : OwnD base w v L) (hl : L.length ≤ 2000) (hw : ∀ x ∈ L, WideD x) : ArAt w v L := ArAt.of_row h hl hw
set_option maxHeartbeats 4000000 in
theorem outside_ok (x y : Int) (b : Bool) (f m : Int) (hx : FitD x y) (hf : FitD f m) (w : World) : Calls Try.prog 40 #[.agg #[.int .i64 x, .int .i64 y, .bool b], .int .i64 f, .int .i64 m] w fun e w' => ∃ v, e = .returned v ∧ OwnD w.heap.size w' v (outD f m (x, y, b)) ∧ Below w.heap.size w w' := by
  obtain ⟨ii, hi, hi0, hi1, hi2⟩ := info_parts areaInfo
  obtain ⟨x1, x2, x3⟩ := hx
  obtain ⟨f1, f2, f3⟩ := hf
  have B0 : Hid (Below w.heap.size w (w.alloc (.cells #[.int .i64 x, .int .i64 y, .bool b] 32))) := Lib.hid ((Below.refl _ _).alloc (Nat.le_refl _) _)
  by_cases h1 : x < f
  · by_cases h2 : f + m < x + y
    · have OUT : Hid (outD f m (x, y, b) = [(x, (f - x), b), ((f + m), (x + y - (f + m)), b)]) := Lib.hid (by unfold outD; rw [if_pos h1, if_pos (show f + m < (x, y, b).1 + (x, y, b).2.1 from h2)]; simp only [List.cons_append, List.nil_append]; rw [show min (x + y) f = f by omega, show max x (f + m) = f + m by omega])
      have h3 : ¬ x + y ≤ f := by omega
      have h4 : x < f + m := by omega
      have A1 : Hid (Below (w.alloc (.cells #[.int .i64 x, .int .i64 y, .bool b] 32)).heap.size (w.alloc (.cells #[.int .i64 x, .int .i64 y, .bool b] 32)) ((w.alloc (.cells #[.int .i64 x, .int .i64 y, .bool b] 32)).alloc (.cells #[.int .i64 x, .int .i64 (f - x), .bool b] 32))) := Lib.hid ((Below.refl _ _).alloc (Nat.le_refl _) _)
      have N1 : Hid (∀ j u, [.int .i64 x, .int .i64 (f - x), .bool b][j]? = some u → ((w.alloc (.cells #[.int .i64 x, .int .i64 y, .bool b] 32)).alloc (.cells #[.int .i64 x, .int .i64 (f - x), .bool b] 32)).cell? ((⟨w.heap.size + 1, 0, none⟩ : Addr).add j) = some u) := Lib.hid (by simpa using three_at (w.alloc (.cells #[.int .i64 x, .int .i64 y, .bool b] 32)) (.int .i64 x) (.int .i64 (f - x)) (.bool b) 32)
      go_enter Try.func40, Try.ntmps40
      go_wp2_with (first
        | (at_builtin; refine wpList_append_own _ rfl (.tmp 13) (.tmp 29) 22 rfl w.heap.size 32 ii (.agg #[.int .i64 0, .int .i64 0, .bool false]) 3 24 Try.underlying22 hi hi0 hi1 hi2 rfl (by decide) _ 0 [] rfl (World.ownsRow_nil _ _ _ _) ⟨w.heap.size + 1, 0, none⟩ 1 1 [.int .i64 x, .int .i64 (f - x), .bool b] rfl rfl N1.out (by simp [Value.oneCell']) (by decide) (by decide) (Nat.le_trans B0.out.size A1.out.size) ?_; intro v1 w1 ho hg _; have O1 : Hid (OwnD w.heap.size w1 v1 [(x, (f - x), b)]) := Lib.hid ho; have T1 : Hid (Below (w.alloc (.cells #[.int .i64 x, .int .i64 y, .bool b] 32)).heap.size (w.alloc (.cells #[.int .i64 x, .int .i64 y, .bool b] 32)) w1) := Lib.hid (below_grown A1.out hg (Nat.le_refl _) (fun g h => by cases h)); have B1 := Lib.hid (B0.out.trans (T1.out.mono B0.out.size)); obtain ⟨c0, c1, c2⟩ := cells3 (below_block T1.out (heap_alloc_new w _)); clear ho hg)
        | (at_builtin; refine wpList_append_own _ rfl (.tmp 46) (.tmp 58) 22 rfl w.heap.size 32 ii (.agg #[.int .i64 0, .int .i64 0, .bool false]) 3 24 Try.underlying22 hi hi0 hi1 hi2 rfl (by decide) _ 1 _ rfl (World.ownsRow.alloc O1.out (.cells #[.int .i64 (f + m), .int .i64 (x + y - (f + m)), .bool b] 32)) ⟨w1.heap.size, 0, none⟩ 1 1 [.int .i64 (f + m), .int .i64 (x + y - (f + m)), .bool b] rfl rfl (three_at _ _ _ _ _) (by simp [Value.oneCell']) (by decide) (by decide) (Nat.le_trans B1.out.size (by simp)) ?_; intro v2 w2 ho hg _; have O2 : Hid (OwnD w.heap.size w2 v2 [(x, (f - x), b), ((f + m), (x + y - (f + m)), b)]) := Lib.hid ho; have B2 := Lib.hid (below_grown (B1.out.alloc B1.out.size (.cells #[.int .i64 (f + m), .int .i64 (x + y - (f + m)), .bool b] 32)) hg (Nat.le_refl _) (fun g h => (World.ownsRow.lt O1.out g h).1)); clear ho hg))
      go_ret
      exact ⟨_, rfl, by rw [OUT.out]; exact O2.out, B2.out⟩
    · by_cases h3 : x + y ≤ f
      · have OUT : Hid (outD f m (x, y, b) = [(x, (x + y - x), b)]) := Lib.hid (by unfold outD; rw [if_pos h1, if_neg (show ¬ f + m < (x, y, b).1 + (x, y, b).2.1 from h2)]; simp only [List.append_nil]; rw [show min (x + y) f = x + y by omega])
        have A1 : Hid (Below (w.alloc (.cells #[.int .i64 x, .int .i64 y, .bool b] 32)).heap.size (w.alloc (.cells #[.int .i64 x, .int .i64 y, .bool b] 32)) ((w.alloc (.cells #[.int .i64 x, .int .i64 y, .bool b] 32)).alloc (.cells #[.int .i64 x, .int .i64 (x + y - x), .bool b] 32))) := Lib.hid ((Below.refl _ _).alloc (Nat.le_refl _) _)
        have N1 : Hid (∀ j u, [.int .i64 x, .int .i64 (x + y - x), .bool b][j]? = some u → ((w.alloc (.cells #[.int .i64 x, .int .i64 y, .bool b] 32)).alloc (.cells #[.int .i64 x, .int .i64 (x + y - x), .bool b] 32)).cell? ((⟨w.heap.size + 1, 0, none⟩ : Addr).add j) = some u) := Lib.hid (by simpa using three_at (w.alloc (.cells #[.int .i64 x, .int .i64 y, .bool b] 32)) (.int .i64 x) (.int .i64 (x + y - x)) (.bool b) 32)
        go_enter Try.func40, Try.ntmps40
        go_wp2_with (first
          | (at_builtin; refine wpList_append_own _ rfl (.tmp 13) (.tmp 29) 22 rfl w.heap.size 32 ii (.agg #[.int .i64 0, .int .i64 0, .bool false]) 3 24 Try.underlying22 hi hi0 hi1 hi2 rfl (by decide) _ 0 [] rfl (World.ownsRow_nil _ _ _ _) ⟨w.heap.size + 1, 0, none⟩ 1 1 [.int .i64 x, .int .i64 (x + y - x), .bool b] rfl rfl N1.out (by simp [Value.oneCell']) (by decide) (by decide) (Nat.le_trans B0.out.size A1.out.size) ?_; intro v1 w1 ho hg _; have O1 : Hid (OwnD w.heap.size w1 v1 [(x, (x + y - x), b)]) := Lib.hid ho; have T1 : Hid (Below (w.alloc (.cells #[.int .i64 x, .int .i64 y, .bool b] 32)).heap.size (w.alloc (.cells #[.int .i64 x, .int .i64 y, .bool b] 32)) w1) := Lib.hid (below_grown A1.out hg (Nat.le_refl _) (fun g h => by cases h)); have B1 := Lib.hid (B0.out.trans (T1.out.mono B0.out.size)); obtain ⟨c0, c1, c2⟩ := cells3 (below_block T1.out (heap_alloc_new w _)); clear ho hg))
        go_ret
        exact ⟨_, rfl, by rw [OUT.out]; exact O1.out, B1.out⟩
      · have OUT : Hid (outD f m (x, y, b) = [(x, (f - x), b)]) := Lib.hid (by unfold outD; rw [if_pos h1, if_neg (show ¬ f + m < (x, y, b).1 + (x, y, b).2.1 from h2)]; simp only [List.append_nil]; rw [show min (x + y) f = f by omega])
        have A1 : Hid (Below (w.alloc (.cells #[.int .i64 x, .int .i64 y, .bool b] 32)).heap.size (w.alloc (.cells #[.int .i64 x, .int .i64 y, .bool b] 32)) ((w.alloc (.cells #[.int .i64 x, .int .i64 y, .bool b] 32)).alloc (.cells #[.int .i64 x, .int .i64 (f - x), .bool b] 32))) := Lib.hid ((Below.refl _ _).alloc (Nat.le_refl _) _)
        have N1 : Hid (∀ j u, [.int .i64 x, .int .i64 (f - x), .bool b][j]? = some u → ((w.alloc (.cells #[.int .i64 x, .int .i64 y, .bool b] 32)).alloc (.cells #[.int .i64 x, .int .i64 (f - x), .bool b] 32)).cell? ((⟨w.heap.size + 1, 0, none⟩ : Addr).add j) = some u) := Lib.hid (by simpa using three_at (w.alloc (.cells #[.int .i64 x, .int .i64 y, .bool b] 32)) (.int .i64 x) (.int .i64 (f - x)) (.bool b) 32)
        go_enter Try.func40, Try.ntmps40
        go_wp2_with (first
          | (at_builtin; refine wpList_append_own _ rfl (.tmp 13) (.tmp 29) 22 rfl w.heap.size 32 ii (.agg #[.int .i64 0, .int .i64 0, .bool false]) 3 24 Try.underlying22 hi hi0 hi1 hi2 rfl (by decide) _ 0 [] rfl (World.ownsRow_nil _ _ _ _) ⟨w.heap.size + 1, 0, none⟩ 1 1 [.int .i64 x, .int .i64 (f - x), .bool b] rfl rfl N1.out (by simp [Value.oneCell']) (by decide) (by decide) (Nat.le_trans B0.out.size A1.out.size) ?_; intro v1 w1 ho hg _; have O1 : Hid (OwnD w.heap.size w1 v1 [(x, (f - x), b)]) := Lib.hid ho; have T1 : Hid (Below (w.alloc (.cells #[.int .i64 x, .int .i64 y, .bool b] 32)).heap.size (w.alloc (.cells #[.int .i64 x, .int .i64 y, .bool b] 32)) w1) := Lib.hid (below_grown A1.out hg (Nat.le_refl _) (fun g h => by cases h)); have B1 := Lib.hid (B0.out.trans (T1.out.mono B0.out.size)); obtain ⟨c0, c1, c2⟩ := cells3 (below_block T1.out (heap_alloc_new w _)); clear ho hg))
        go_ret
        exact ⟨_, rfl, by rw [OUT.out]; exact O1.out, B1.out⟩
  · by_cases h2 : f + m < x + y
    · by_cases h4 : x < f + m
      · have OUT : Hid (outD f m (x, y, b) = [((f + m), (x + y - (f + m)), b)]) := Lib.hid (by unfold outD; rw [if_neg h1, if_pos (show f + m < (x, y, b).1 + (x, y, b).2.1 from h2)]; simp only [List.nil_append]; rw [show max x (f + m) = f + m by omega])
        have A1 : Hid (Below (w.alloc (.cells #[.int .i64 x, .int .i64 y, .bool b] 32)).heap.size (w.alloc (.cells #[.int .i64 x, .int .i64 y, .bool b] 32)) ((w.alloc (.cells #[.int .i64 x, .int .i64 y, .bool b] 32)).alloc (.cells #[.int .i64 (f + m), .int .i64 (x + y - (f + m)), .bool b] 32))) := Lib.hid ((Below.refl _ _).alloc (Nat.le_refl _) _)
        have N1 : Hid (∀ j u, [.int .i64 (f + m), .int .i64 (x + y - (f + m)), .bool b][j]? = some u → ((w.alloc (.cells #[.int .i64 x, .int .i64 y, .bool b] 32)).alloc (.cells #[.int .i64 (f + m), .int .i64 (x + y - (f + m)), .bool b] 32)).cell? ((⟨w.heap.size + 1, 0, none⟩ : Addr).add j) = some u) := Lib.hid (by simpa using three_at (w.alloc (.cells #[.int .i64 x, .int .i64 y, .bool b] 32)) (.int .i64 (f + m)) (.int .i64 (x + y - (f + m))) (.bool b) 32)
        go_enter Try.func40, Try.ntmps40
        go_wp2_with (first
          | (at_builtin; refine wpList_append_own _ rfl (.tmp 46) (.tmp 58) 22 rfl w.heap.size 32 ii (.agg #[.int .i64 0, .int .i64 0, .bool false]) 3 24 Try.underlying22 hi hi0 hi1 hi2 rfl (by decide) _ 0 [] rfl (World.ownsRow_nil _ _ _ _) ⟨w.heap.size + 1, 0, none⟩ 1 1 [.int .i64 (f + m), .int .i64 (x + y - (f + m)), .bool b] rfl rfl N1.out (by simp [Value.oneCell']) (by decide) (by decide) (Nat.le_trans B0.out.size A1.out.size) ?_; intro v2 w2 ho hg _; have O2 : Hid (OwnD w.heap.size w2 v2 [((f + m), (x + y - (f + m)), b)]) := Lib.hid ho; have T2 : Hid (Below (w.alloc (.cells #[.int .i64 x, .int .i64 y, .bool b] 32)).heap.size (w.alloc (.cells #[.int .i64 x, .int .i64 y, .bool b] 32)) w2) := Lib.hid (below_grown A1.out hg (Nat.le_refl _) (fun g h => by cases h)); have B2 := Lib.hid (B0.out.trans (T2.out.mono B0.out.size)); clear ho hg))
        go_ret
        exact ⟨_, rfl, by rw [OUT.out]; exact O2.out, B2.out⟩
      · have OUT : Hid (outD f m (x, y, b) = [(x, (x + y - x), b)]) := Lib.hid (by unfold outD; rw [if_neg h1, if_pos (show f + m < (x, y, b).1 + (x, y, b).2.1 from h2)]; simp only [List.nil_append]; rw [show max x (f + m) = x by omega])
        have A1 : Hid (Below (w.alloc (.cells #[.int .i64 x, .int .i64 y, .bool b] 32)).heap.size (w.alloc (.cells #[.int .i64 x, .int .i64 y, .bool b] 32)) ((w.alloc (.cells #[.int .i64 x, .int .i64 y, .bool b] 32)).alloc (.cells #[.int .i64 x, .int .i64 (x + y - x), .bool b] 32))) := Lib.hid ((Below.refl _ _).alloc (Nat.le_refl _) _)
        have N1 : Hid (∀ j u, [.int .i64 x, .int .i64 (x + y - x), .bool b][j]? = some u → ((w.alloc (.cells #[.int .i64 x, .int .i64 y, .bool b] 32)).alloc (.cells #[.int .i64 x, .int .i64 (x + y - x), .bool b] 32)).cell? ((⟨w.heap.size + 1, 0, none⟩ : Addr).add j) = some u) := Lib.hid (by simpa using three_at (w.alloc (.cells #[.int .i64 x, .int .i64 y, .bool b] 32)) (.int .i64 x) (.int .i64 (x + y - x)) (.bool b) 32)
        go_enter Try.func40, Try.ntmps40
        go_wp2_with (first
          | (at_builtin; refine wpList_append_own _ rfl (.tmp 46) (.tmp 58) 22 rfl w.heap.size 32 ii (.agg #[.int .i64 0, .int .i64 0, .bool false]) 3 24 Try.underlying22 hi hi0 hi1 hi2 rfl (by decide) _ 0 [] rfl (World.ownsRow_nil _ _ _ _) ⟨w.heap.size + 1, 0, none⟩ 1 1 [.int .i64 x, .int .i64 (x + y - x), .bool b] rfl rfl N1.out (by simp [Value.oneCell']) (by decide) (by decide) (Nat.le_trans B0.out.size A1.out.size) ?_; intro v2 w2 ho hg _; have O2 : Hid (OwnD w.heap.size w2 v2 [(x, (x + y - x), b)]) := Lib.hid ho; have T2 : Hid (Below (w.alloc (.cells #[.int .i64 x, .int .i64 y, .bool b] 32)).heap.size (w.alloc (.cells #[.int .i64 x, .int .i64 y, .bool b] 32)) w2) := Lib.hid (below_grown A1.out hg (Nat.le_refl _) (fun g h => by cases h)); have B2 := Lib.hid (B0.out.trans (T2.out.mono B0.out.size)); clear ho hg))
        go_ret
        exact ⟨_, rfl, by rw [OUT.out]; exact O2.out, B2.out⟩
    · have OUT : Hid (outD f m (x, y, b) = []) := Lib.hid (by unfold outD; rw [if_neg h1, if_neg (show ¬ f + m < (x, y, b).1 + (x, y, b).2.1 from h2)]; rfl)
      go_enter Try.func40, Try.ntmps40
      go_wp2
      go_ret
      exact ⟨_, rfl, by rw [OUT.out]; exact World.ownsRow_nil _ _ _ _, B0.out⟩
end Go.Proofs.Ytmfpoagimedhnaa
