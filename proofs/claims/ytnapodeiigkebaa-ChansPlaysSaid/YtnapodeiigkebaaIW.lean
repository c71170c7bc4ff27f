/- Texts of mine, joined: CI H11 H12. What each says and under which conditions stands at its head, below. -/
import Derived.Test.YtnapodeiigkebaaIR
import Derived.Test.YtnapodeiigkebaaH10
/- A configuration among a law's arguments; one in a variable. Conditions: named in the theorems. -/
namespace Go.Proofs.Ytnapodeiigkebaa
open Go.RowKit
set_option maxRecDepth 100000

/-- Rows that came in. -/
def RowsIn (k : Nat) (w : World) (v : Value) (S : List Row) : Prop := ∃ a c, v = .slice a S.length c ∧ (∀ T ∈ S, T.length = k) ∧ (S = [] ∨ ∃ b o, a = some ⟨b, o, none⟩ ∧ b < w.heap.size ∧
  ∀ i, i < S.length → ∀ j, j < k → w.cell? ⟨b, o + i * k + j, none⟩ = some (.int .i64 ((S.getD i []).getD j 0)))
theorem RowsIn.at_ {k : Nat} {w : World} {v : Value} {S : List Row} (h : RowsIn k w v S) (hl : S.length ≤ 100) : RowsAt k w v S := by
  obtain ⟨a, c, rfl, hT, hS⟩ := h
  exact ⟨a, c, rfl, by omega, hT, hS⟩
/-- A configuration that came in. -/
structure ConfIn (w : World) (v : Value) (C : Cf) : Prop where
  parts : ∃ v1 v2 v3, v = .agg #[v1, v2, v3] ∧ RowsIn 2 w v1 C.1 ∧ RowsIn 2 w v2 C.2.1 ∧ RowsIn 4 w v3 C.2.2
/-- Are there more than 100 of something? -/
def longC (C : Cf) : Prop := 100 < C.1.length ∨ 100 < C.2.1.length ∨ 100 < C.2.2.length
theorem ConfIn.cf {w : World} {v : Value} {C : Cf} (h : ConfIn w v C) (hl : ¬ longC C) : ∃ v1 v2 v3, v = .agg #[v1, v2, v3] ∧ CfAt w v1 v2 v3 C := by
  obtain ⟨v1, v2, v3, rfl, h1, h2, h3⟩ := h.parts
  unfold longC at hl
  exact ⟨v1, v2, v3, rfl, h1.at_ (by omega), h2.at_ (by omega), h3.at_ (by omega)⟩
theorem two_row2 {w : World} {b : Nat} {x y z t : Int} {ty : TypeId} (h : w.heap[b]? = some (.cells #[.int .i64 x, .int .i64 y, .int .i64 z, .int .i64 t] ty (0, 0))) : RowsAt 2 w (.slice (some ⟨b, 0, none⟩) 2 2) [[x, y], [z, t]] := by
  refine ⟨_, _, rfl, by simp, by simp, Or.inr ⟨b, 0, rfl, lt_of_block h, fun i hi j hj => ?_⟩⟩
  rw [cell_of_row w b _ _ _ _ h]
  match i, hi, j, hj with
  | 0, _, 0, _ => rfl
  | 0, _, 1, _ => rfl
  | 1, _, 0, _ => rfl
  | 1, _, 1, _ => rfl
theorem one_row4 {w : World} {b : Nat} {x y z t : Int} {ty : TypeId} (h : w.heap[b]? = some (.cells #[.int .i64 x, .int .i64 y, .int .i64 z, .int .i64 t] ty (0, 0))) : RowsAt 4 w (.slice (some ⟨b, 0, none⟩) 1 1) [[x, y, z, t]] := by
  refine ⟨_, _, rfl, by simp, by simp, Or.inr ⟨b, 0, rfl, lt_of_block h, fun i hi j hj => ?_⟩⟩
  obtain rfl : i = 0 := by simpa using hi
  rw [cell_of_row w b _ _ _ _ h]
  match j, hj with
  | 0, _ => rfl
  | 1, _ => rfl
  | 2, _ => rfl
  | 3, _ => rfl
theorem RowsIn.below {k : Nat} {w w' : World} {v : Value} {S : List Row} (h : RowsIn k w v S) (hb : Below w.heap.size w w') : RowsIn k w' v S := by
  obtain ⟨a, c, rfl, hT, hS⟩ := h
  refine ⟨a, c, rfl, hT, ?_⟩
  rcases hS with hS | ⟨b, o, rfl, hlt, hc⟩
  · exact Or.inl hS
  · exact Or.inr ⟨b, o, rfl, Nat.lt_of_lt_of_le hlt hb.size, fun i hi j hj => (hb.cell (p := ⟨b, o + i * k + j, none⟩) hlt).trans (hc i hi j hj)⟩
theorem ConfIn.below {w w' : World} {v : Value} {C : Cf} (h : ConfIn w v C) (hb : Below w.heap.size w w') : ConfIn w' v C := by
  obtain ⟨v1, v2, v3, rfl, h1, h2, h3⟩ := h.parts
  exact ⟨v1, v2, v3, rfl, h1.below hb, h2.below hb, h3.below hb⟩
theorem ConfIn.slices {w : World} {v : Value} {C : Cf} (h : ConfIn w v C) : ∃ a1 n1 m1 a2 n2 m2 a3 n3 m3, v = .agg #[.slice a1 n1 m1, .slice a2 n2 m2, .slice a3 n3 m3] := by
  obtain ⟨v1, v2, v3, rfl, ⟨_, _, rfl, _⟩, ⟨_, _, rfl, _⟩, ⟨_, _, rfl, _⟩⟩ := h.parts
  exact ⟨_, _, _, _, _, _, _, _, _, rfl⟩
theorem ConfIn.at_ {w : World} {v1 v2 v3 : Value} {C : Cf} (h : ConfIn w (.agg #[v1, v2, v3]) C) (hl : ¬ longC C) : CfAt w v1 v2 v3 C := by
  obtain ⟨u1, u2, u3, e, h⟩ := h.cf hl
  simp at e
  obtain ⟨rfl, rfl, rfl⟩ := e
  exact h

end Go.Proofs.Ytnapodeiigkebaa

/- Layer 20's laws' small functions: long, two, awake; channels of a law's own. Conditions: named in the theorems. -/
namespace Go.Proofs.Ytnapodeiigkebaa
open Go.RowKit
set_option maxRecDepth 100000

theorem long20_yes (v : Value) (C : Cf) (w : World) (h : ConfIn w v C) (hl : longC C) : Calls Try.prog 8 #[v] w fun e w' => e = .returned (.bool true) ∧ Below w.heap.size w w' := by
  obtain ⟨v1, v2, v3, rfl, ⟨a1, c1, rfl, -, -⟩, ⟨a2, c2, rfl, -, -⟩, ⟨a3, c3, rfl, -, -⟩⟩ := h.parts
  obtain ⟨P, W, H⟩ := C
  unfold longC at hl
  simp only at hl ⊢
  generalize P.length = n at *
  generalize W.length = m at *
  generalize H.length = k at *
  have hc : (100 : Int) < n ∨ (¬ (100 : Int) < n ∧ (100 : Int) < m) ∨ (¬ (100 : Int) < n ∧ ¬ (100 : Int) < m ∧ (100 : Int) < k) := by omega
  clear hl h
  rcases hc with h1 | ⟨h1, h2⟩ | ⟨h1, h2, h3⟩
  all_goals
    go_enter Try.func8, Try.ntmps8
    go_wp2
    go_ret
    exact ⟨rfl, (Below.refl _ _).alloc (Nat.le_refl _) _⟩
theorem long20_no (v1 v2 v3 : Value) (C : Cf) (w : World) (h : CfAt w v1 v2 v3 C) (hl : ¬ longC C) : Calls Try.prog 8 #[.agg #[v1, v2, v3]] w fun e w' => e = .returned (.bool false) ∧ Below w.heap.size w w' := by
  obtain ⟨⟨a1, c1, rfl, -, -, -⟩, ⟨a2, c2, rfl, -, -, -⟩, ⟨a3, c3, rfl, -, -, -⟩⟩ := h
  obtain ⟨P, W, H⟩ := C
  unfold longC at hl
  simp only at hl ⊢
  generalize P.length = n at *
  generalize W.length = m at *
  generalize H.length = k at *
  have h1 : ¬ (100 : Int) < n := by omega
  have h2 : ¬ (100 : Int) < m := by omega
  have h3 : ¬ (100 : Int) < k := by omega
  clear hl
  go_enter Try.func8, Try.ntmps8
  go_wp2
  go_ret
  exact ⟨rfl, (Below.refl _ _).alloc (Nat.le_refl _) _⟩
/-- The document's example. -/
def twoH : Cf := ([[4, 1], [4, 1]], [[0, 1], [1, 1]], [[0, 1, 2, 3]])
theorem twoH_chk : chk twoH = 0 := by decide
theorem twoH_frames : framesC twoH = 11 := by decide
set_option maxHeartbeats 1000000 in
theorem twoH_ok (w : World) : Calls Try.prog 29 #[] w fun e w' => ∃ v1 v2 v3, e = .returned (.agg #[v1, v2, v3]) ∧ CfAt w' v1 v2 v3 twoH ∧ Below w.heap.size w w' := by
  go_enter Try.func29, Try.ntmps29
  go_wp2
  obtain ⟨wa, hwa⟩ : ∃ wa, wa = (w.alloc (.cells #[.slice (some ⟨w.heap.size + 1, 0, none⟩) 2 2, .slice (some ⟨w.heap.size + 1 + 1, 0, none⟩) 2 2, .slice (some ⟨w.heap.size + 1 + 1 + 1, 0, none⟩) 1 1] 26)).alloc (.cells #[.int .i64 4, .int .i64 1, .int .i64 4, .int .i64 1] 80) := ⟨_, rfl⟩
  have hsa : wa.heap.size = w.heap.size + 1 + 1 := by rw [hwa]; simp
  have hba : Below w.heap.size w wa := by rw [hwa]; exact below_two w _ _
  have hX : CBox wa w.heap.size (.slice (some ⟨w.heap.size + 1, 0, none⟩) 2 2) (.slice (some ⟨w.heap.size + 1 + 1, 0, none⟩) 2 2) (.slice (some ⟨w.heap.size + 1 + 1 + 1, 0, none⟩) 1 1) := by rw [hwa]; exact below_block ((Below.refl _ _).alloc (Nat.le_refl _) _) (heap_alloc_new w _)
  have hP : wa.heap[w.heap.size + 1]? = some (.cells #[.int .i64 4, .int .i64 1, .int .i64 4, .int .i64 1] 80 (0, 0)) := by rw [hwa]; exact heap_alloc2_new w _ _
  rw [← hwa]
  have hA : Below wa.heap.size wa ((wa.alloc (.cells #[.int .i64 0, .int .i64 1, .int .i64 1, .int .i64 1] 112)).alloc (.cells #[.int .i64 0, .int .i64 1, .int .i64 2, .int .i64 3] 47)) := below_two _ _ _
  have hW := below_block ((Below.refl _ _).alloc (Nat.le_refl _) (.cells #[.int .i64 0, .int .i64 1, .int .i64 2, .int .i64 3] 47)) (heap_alloc_new wa (.cells #[.int .i64 0, .int .i64 1, .int .i64 1, .int .i64 1] 112))
  have hH := heap_alloc2_new wa (.cells #[.int .i64 0, .int .i64 1, .int .i64 1, .int .i64 1] 112) (.cells #[.int .i64 0, .int .i64 1, .int .i64 2, .int .i64 3] 47)
  rw [hsa] at hW hH
  have q0 := (hX.below hA).c0
  have q1 := (hX.below hA).c1
  have q2 := (hX.below hA).c2
  refine ⟨rfl, .agg #[.slice (some ⟨w.heap.size + 1, 0, none⟩) 2 2, .slice (some ⟨w.heap.size + 1 + 1, 0, none⟩) 2 2, .slice (some ⟨w.heap.size + 1 + 1 + 1, 0, none⟩) 1 1], ?_, _, _, _, rfl, ⟨two_row2 (below_block hA hP), two_row2 hW, one_row4 hH⟩, hba.trans (hA.mono hba.size)⟩
  simp [results, Try.results29, go_sem, q0, q1, q2]
/-- Channels of a law's own. -/
structure OwnH (W w : World) (X : ChX) (ff : Nat → Nat) (L : List Int) (Q : Msgs) : Prop where
  st : ChAt w X ff L Q
  below : Below W.heap.size W w
  new : ∀ j, X.own j → W.heap.size ≤ j
section
variable {W w : World} {X : ChX} {ff : Nat → Nat} {L : List Int} {Q : Msgs}
theorem OwnH.step (h : OwnH W w X ff L Q) {w' : World} (hb : Below w.heap.size w w') : OwnH W w' X ff L Q := ⟨h.st.below hb, h.below.trans (hb.mono h.below.size), h.new⟩
theorem OwnH.turn {w' : World} {ff' : Nat → Nat} {L' : List Int} {Q' : Msgs} (h : OwnH W w X ff L Q) (k : ChAt w' X ff' L' Q') (ho : Only w w' X.own) : OwnH W w' X ff' L' Q' := ⟨k, Only.old h.below ho h.below.size h.new, h.new⟩
theorem OwnH.made {mp fb n : Nat} {C : Cf} {w' : World} (hM : OwnMem W w mp fb n L) (h : NewH w mp fb n L C X w') : OwnH W w' X (fun _ => 0) L (fun _ => []) := by
  obtain ⟨h1, h2, -, h4, h5, -, -, -, h8, h9⟩ := h
  refine ⟨h1, hM.below.trans (h9.mono hM.below.size), fun j hj => ?_⟩
  rcases hj with (rfl | rfl) | ⟨i, hi, rfl⟩
  · rw [h4]; exact hM.lm
  · rw [h5]; exact hM.lf
  · exact Nat.le_trans hM.below.size (h8 i hi)
theorem OwnH.send (h : OwnH W w X ff L Q) (part ch : Int) (M : List Int) (a : Option Addr) (cl : Nat) (hM : RowAt w (.slice a M.length cl) M) (hw : ∀ x ∈ M, 0 ≤ x ∧ x < 4294967296) {er : Int} {Q' : Msgs} (he : sendE X.H Q part ch M.length = er) (hQ : sendQ X.H Q part ch M = Q') :
    Calls Try.prog 22 #[.pointer (some ⟨X.xb, 0, none⟩), .int .i64 part, .int .i64 ch, .slice a M.length cl] w fun e w' => e = .returned (.int .i64 er) ∧ ∃ L', OwnH W w' X ff L' Q' ∧ Only w w' X.own ∧ ∀ k, ¬ X.inW k → L'.getD k 0 = L.getD k 0 := by
  subst he hQ
  exact (h.st.send part ch M a cl hM hw).mono fun e w' ⟨e1, L', e2, e3, e4⟩ => ⟨e1, L', h.turn e2 e3, e3, e4⟩
theorem OwnH.recv (h : OwnH W w X ff L Q) (part ch : Int) {er : Int} {M : List Int} {Q' : Msgs} (he : recvE X.H Q part ch = er) (hM : recvM X.H Q part ch = M) (hQ : recvQ X.H Q part ch = Q') :
    Calls Try.prog 23 #[.pointer (some ⟨X.xb, 0, none⟩), .int .i64 part, .int .i64 ch] w fun e w' => ∃ u ff', e = .returned (.tuple #[u, .int .i64 er]) ∧ MsgN w' u M ∧ OwnH W w' X ff' L Q' ∧ Only w w' X.own := by
  subst he hM hQ
  exact (h.st.recv part ch).mono fun e w' ⟨u, ff', e1, e2, e3, e4⟩ => ⟨u, ff', e1, e2, h.turn e3 e4, e4⟩
theorem OwnH.next (h : OwnH W w X ff L Q) (part ch : Int) {er : Int} {n : Int} (he : recvE X.H Q part ch = er) (hM : ((recvM X.H Q part ch).length : Int) = n) :
    Calls Try.prog 28 #[.pointer (some ⟨X.xb, 0, none⟩), .int .i64 part, .int .i64 ch] w fun e w' => e = .returned (.tuple #[.int .i64 n, .int .i64 er]) ∧ OwnH W w' X ff L Q ∧ Below w.heap.size w w' := by
  subst he hM
  exact (h.st.next part ch).mono fun e w' ⟨e1, e2⟩ => ⟨e1, h.step e2, e2⟩
theorem OwnH.may (h : OwnH W w X ff L Q) (part ch : Int) (s : Bool) {er : Int} (he : mayE X.H part ch s = er) : Calls Try.prog 16 #[.pointer (some ⟨X.xb, 0, none⟩), .int .i64 part, .int .i64 ch, .bool s] w fun e w' => e = .returned (.int .i64 er) ∧ OwnH W w' X ff L Q ∧ Below w.heap.size w w' := by
  subst he
  exact (h.st.may part ch s).mono fun e w' ⟨e1, e2⟩ => ⟨e1, h.step e2, e2⟩
theorem OwnH.room (h : OwnH W w X ff L Q) (ch : Int) {n : Int} (hn : roomN X.H Q ch = n) : Calls Try.prog 18 #[.pointer (some ⟨X.xb, 0, none⟩), .int .i64 ch] w fun e w' => e = .returned (.int .i64 n) ∧ OwnH W w' X ff L Q ∧ Below w.heap.size w w' := by
  subst hn
  exact (h.st.roomA ch).mono fun e w' ⟨e1, e2⟩ => ⟨e1, h.step e2, e2⟩
theorem OwnH.words (h : OwnH W w X ff L Q) (ch : Int) {n : Int} (hn : wordsN X.H ch = n) : Calls Try.prog 20 #[.pointer (some ⟨X.xb, 0, none⟩), .int .i64 ch] w fun e w' => e = .returned (.int .i64 n) ∧ OwnH W w' X ff L Q ∧ Below w.heap.size w w' := by
  subst hn
  exact (h.st.words ch).mono fun e w' ⟨e1, e2⟩ => ⟨e1, h.step e2, e2⟩
end
theorem zeros_wd (n : Nat) : ∀ i, 0 ≤ (List.replicate n (0 : Int)).getD i 0 ∧ (List.replicate n (0 : Int)).getD i 0 < 4294967296 := fun i => by rw [replicate_get]; omega
end Go.Proofs.Ytnapodeiigkebaa

/- What layer 20's laws' sentinel does. No condition. -/
namespace Go.Proofs.Ytnapodeiigkebaa
open Go.RowKit
set_option maxRecDepth 100000

/-- Words that are written out, as a message. -/
theorem litH_row (w : World) (L : List Int) : RowAt (w.alloc (.cells (wordsV L) 57)) (.slice (some ⟨w.heap.size, 0, none⟩) L.length L.length) L := (msg_of_row (heap_alloc_new w _)).rowAt
theorem OwnH.sendLit {W w : World} {X : ChX} {ff : Nat → Nat} {L : List Int} {Q Q' : Msgs} (h : OwnH W w X ff L Q) (part ch er : Int) (M : List Int) (n : Nat) (hn : M.length = n) (hw : ∀ x ∈ M, 0 ≤ x ∧ x < 4294967296) (he : sendE X.H Q part ch n = er) (hQ : sendQ X.H Q part ch M = Q') :
    Calls Try.prog 22 #[.pointer (some ⟨X.xb, 0, none⟩), .int .i64 part, .int .i64 ch, .slice (some ⟨w.heap.size, 0, none⟩) n n] (w.alloc (.cells (wordsV M) 57)) fun e w' => e = .returned (.int .i64 er) ∧ ∃ L', OwnH W w' X ff L' Q' := by
  subst hn
  exact ((h.step (below_step1 w _)).send part ch M _ _ (litH_row w M) hw he hQ).mono fun _ _ ⟨h1, L', h2, _⟩ => ⟨h1, L', h2⟩
abbrev Q0 : Msgs := fun _ => []
abbrev h1H : List Row := [[0, 1, 2, 3]]
set_option maxHeartbeats 2000000 in
theorem awake20 (W : World) : Calls Try.prog 9 #[] W fun e w' => e = .returned (.bool true) ∧ Below W.heap.size W w' := by
  have NM := Lib.hid (new_ok 20 W (by decide) (by decide))
  go_enter Try.func9, Try.ntmps9
  go_wp2_with fail
  refine NM.out.mono ?_
  intro e w1 hp
  obtain ⟨mp, fb, rfl, hm⟩ := OwnMem.new hp
  have M1 := Lib.hid hm
  clear hp hm
  go_wp2_with fail
  refine (twoH_ok w1).mono ?_
  rintro e w2 ⟨v1, v2, v3, rfl, hc, hb⟩
  have M2 := Lib.hid (M1.out.step hb)
  have NW := Lib.hid (newH_ok M2.out.st (zeros_wd _) hc twoH_chk (by rw [twoH_frames]; decide))
  clear hc hb
  go_wp2_with fail
  refine NW.out.mono ?_
  rintro e w3 ⟨X, rfl, hn⟩
  have O3 := Lib.hid (OwnH.made M2.out hn)
  have HX : Hid (X.H = h1H) := Lib.hid hn.2.1
  clear hn NW
  obtain ⟨xb, hxb⟩ : ∃ xb, xb = X.xb := ⟨_, rfl⟩
  have XB := Lib.hid hxb
  rw [← hxb]
  clear hxb
  have S3 := O3.out.sendLit 0 0 0 [7, 8] 2 rfl (by decide) (by rw [HX.out]; decide) rfl
  rw [HX.out, ← XB.out] at S3
  have S3 := Lib.hid S3
  go_wp2_with fail
  refine S3.out.mono ?_
  rintro e w4 ⟨rfl, L4, ho⟩
  have O4 := Lib.hid ho
  clear ho S3
  have S4 := O4.out.sendLit 1 0 8 [7] 1 rfl (by decide) (by rw [HX.out]; decide) rfl
  rw [HX.out, ← XB.out] at S4
  have S4 := Lib.hid S4
  go_wp2_with fail
  refine S4.out.mono ?_
  rintro e w5 ⟨rfl, L5, ho⟩
  have O5 := Lib.hid ho
  clear ho S4
  have N5 := O5.out.next 1 0 (er := 0) (n := 2) (by rw [HX.out]; decide) (by rw [HX.out]; decide)
  rw [← XB.out] at N5
  have N5 := Lib.hid N5
  go_wp2_with fail
  refine N5.out.mono ?_
  rintro e w6 ⟨rfl, ho, -⟩
  have O6 := Lib.hid ho
  clear ho N5
  have R6 := O6.out.recv 1 0 (er := 0) (M := [7, 8]) (by rw [HX.out]; decide) (by rw [HX.out]; decide) rfl
  rw [HX.out, ← XB.out] at R6
  have R6 := Lib.hid R6
  go_wp2_with fail
  refine R6.out.mono ?_
  rintro e w7 ⟨u, f7, rfl, hu, ho, -⟩
  have O7 := Lib.hid ho
  obtain ⟨ua, uc, rfl⟩ := hu.form
  have U7 := Lib.hid hu
  clear ho R6 hu
  have R7 := O7.out.recv 1 0 (er := 12) (M := []) (by rw [HX.out]; decide) (by rw [HX.out]; decide) rfl
  rw [HX.out, ← XB.out] at R7
  have R7 := Lib.hid R7
  go_wp2_with fail
  refine R7.out.mono ?_
  rintro e w8 ⟨u8, f8, rfl, -, ho, hon⟩
  have O8 := Lib.hid ho
  have U8 := Lib.hid (U7.out.only hon (fun j hj => by
    obtain ⟨cs, t, h1, h2⟩ := O7.out.st.kinds j hj
    exact ⟨cs, t, h1, by rcases h2 with rfl | rfl | rfl <;> decide, by rcases h2 with rfl | rfl | rfl <;> decide⟩))
  clear ho R7 hon
  have A9 := Lib.hid (below_step1 w8 (.cells (wordsV [7, 8]) 57))
  have SM := Lib.hid (same_yes _ _ [7, 8] _ (by decide) (U8.out.row.below A9.out) (litH_row w8 [7, 8]))
  go_wp2_with fail
  refine SM.out.mono ?_
  rintro e w9 ⟨rfl, hb⟩
  have B9 := A9.out.trans (hb.mono A9.out.size)
  have O9 := Lib.hid (O8.out.step B9)
  have S9 := O9.out.send 0 1 [7, 8] _ _ (U8.out.row.below B9) (by decide) (er := 4) (by rw [HX.out]; decide) rfl
  rw [HX.out, ← XB.out] at S9
  have S9 := Lib.hid S9
  clear hb B9
  go_wp2_with fail
  refine S9.out.mono ?_
  rintro e w10 ⟨rfl, L10, ho, -⟩
  have O10 := Lib.hid ho
  clear ho S9
  go_wp2
  go_ret
  exact ⟨rfl, O10.out.below⟩
end Go.Proofs.Ytnapodeiigkebaa
