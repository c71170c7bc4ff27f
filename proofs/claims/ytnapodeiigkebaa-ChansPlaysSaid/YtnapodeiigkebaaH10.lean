/- What channels answer, as numbers and lists; each call of package chans, whatever it is asked. Conditions: the channels lie as New laid them. -/
import Derived.Test.YtnapodeiigkebaaIV
import Derived.Test.YtnapodeiigkebaaG14
namespace Go.Proofs.Ytnapodeiigkebaa
open Go.RowKit
set_option maxRecDepth 100000

/-- A channel's number from a partition, to one, its cap, its width. -/
def atH (H : List Row) (ch : Int) (j : Nat) : Int := (H.getD ch.toNat []).getD j 0
def inH (H : List Row) (ch : Int) : Prop := 0 ≤ ch ∧ ch < H.length
instance (H : List Row) (ch : Int) : Decidable (inH H ch) := inferInstanceAs (Decidable (_ ∧ _))
def whoH (H : List Row) (ch : Int) (send : Bool) : Int := if send then atH H ch 0 else atH H ch 1
/-- What May, Send, Recv answer; what Recv tells; which messages there are behind them. -/
def mayE (H : List Row) (part ch : Int) (send : Bool) : Int := if inH H ch then (if part = whoH H ch send then 0 else 8) else 4
abbrev Msgs := Nat → List (List Int)
def sendE (H : List Row) (Q : Msgs) (part ch : Int) (n : Nat) : Int := if mayE H part ch true = 0 then (if 1 ≤ n ∧ (n : Int) ≤ atH H ch 3 then (if ((Q ch.toNat).length : Int) < atH H ch 2 then 0 else 12) else 2) else mayE H part ch true
def sendQ (H : List Row) (Q : Msgs) (part ch : Int) (M : List Int) : Msgs := if sendE H Q part ch M.length = 0 then updH Q ch.toNat (Q ch.toNat ++ [M]) else Q
def recvE (H : List Row) (Q : Msgs) (part ch : Int) : Int := if mayE H part ch false = 0 then (if Q ch.toNat = [] then 12 else 0) else mayE H part ch false
def recvM (H : List Row) (Q : Msgs) (part ch : Int) : List Int := if recvE H Q part ch = 0 then (Q ch.toNat).headD [] else []
def recvQ (H : List Row) (Q : Msgs) (part ch : Int) : Msgs := if recvE H Q part ch = 0 then updH Q ch.toNat (Q ch.toNat).tail else Q
def roomN (H : List Row) (Q : Msgs) (ch : Int) : Int := if inH H ch then atH H ch 2 - ((Q ch.toNat).length : Int) else 0
def wordsN (H : List Row) (ch : Int) : Int := if inH H ch then atH H ch 3 else 0
theorem mayE_in {H : List Row} {part ch : Int} {s : Bool} (h : mayE H part ch s = 0) : inH H ch ∧ part = whoH H ch s := by
  unfold mayE at h
  split at h
  · rename_i h1
    split at h
    · rename_i h2; exact ⟨h1, h2⟩
    · cases h
  · cases h
theorem mayE_cases (H : List Row) (part ch : Int) (s : Bool) : (¬ inH H ch ∧ mayE H part ch s = 4) ∨ (inH H ch ∧ part ≠ whoH H ch s ∧ mayE H part ch s = 8) ∨ (inH H ch ∧ part = whoH H ch s ∧ mayE H part ch s = 0) := by
  unfold mayE
  by_cases h : inH H ch
  · by_cases h2 : part = whoH H ch s
    · exact Or.inr (Or.inr ⟨h, h2, by rw [if_pos h, if_pos h2]⟩)
    · exact Or.inr (Or.inl ⟨h, h2, by rw [if_pos h, if_neg h2]⟩)
  · exact Or.inl ⟨h, by rw [if_neg h]⟩
theorem inH_nat {H : List Row} {ch : Int} (h : inH H ch) : ∃ i : Nat, ch = (i : Int) ∧ i < H.length := by
  obtain ⟨h0, h1⟩ := h
  obtain ⟨i, rfl⟩ := Int.eq_ofNat_of_zero_le h0
  exact ⟨i, rfl, by omega⟩
/-- A word of some channel's. -/
def ChX.inW (X : ChX) (k : Nat) : Prop := ∃ i, i < X.H.length ∧ X.fr i * 32 ≤ k ∧ k < X.fr i * 32 + X.wds i
section
variable {w : World} {X : ChX} {ff : Nat → Nat} {L : List Int} {Q : Msgs} (A : ChAt w X ff L Q)
include A
theorem ChAt.endA (part ch : Int) (send : Bool) (h : mayE X.H part ch send ≠ 0) : EndP (.pointer (some ⟨X.xb, 0, none⟩)) part ch send chZ (mayE X.H part ch send) w := by
  rcases mayE_cases X.H part ch send with ⟨h1, h2⟩ | ⟨h1, h2, h3⟩ | ⟨h1, h2, h3⟩
  · rw [h2]; exact A.endB ch h1 part send
  · obtain ⟨i, rfl, hi⟩ := inH_nat h1
    rw [h3]; exact A.endN hi part send h2
  · exact absurd h3 h
theorem ChAt.may (part ch : Int) (send : Bool) : Calls Try.prog 16 #[.pointer (some ⟨X.xb, 0, none⟩), .int .i64 part, .int .i64 ch, .bool send] w fun e w' => e = .returned (.int .i64 (mayE X.H part ch send)) ∧ Below w.heap.size w w' := by
  by_cases h : mayE X.H part ch send = 0
  · obtain ⟨h1, h2⟩ := mayE_in h
    obtain ⟨i, rfl, hi⟩ := inH_nat h1
    rw [h]
    exact mayH_ok (A.endY hi part send h2) rfl (chOne _ _ _ _ _ _ _)
  · exact mayH_ok (A.endA part ch send h) rfl chZOne
theorem ChAt.words (ch : Int) : Calls Try.prog 20 #[.pointer (some ⟨X.xb, 0, none⟩), .int .i64 ch] w fun e w' => e = .returned (.int .i64 (wordsN X.H ch)) ∧ Below w.heap.size w w' := by
  unfold wordsN
  by_cases h : inH X.H ch
  · obtain ⟨i, rfl, hi⟩ := inH_nat h
    rw [if_pos h]
    exact wordsH_ok (findP_ok A i hi)
  · rw [if_neg h]; exact wordsH_no (findP_bad A ch h)
theorem ChAt.roomA (ch : Int) : Calls Try.prog 18 #[.pointer (some ⟨X.xb, 0, none⟩), .int .i64 ch] w fun e w' => e = .returned (.int .i64 (roomN X.H Q ch)) ∧ Below w.heap.size w w' := by
  unfold roomN
  by_cases h : inH X.H ch
  · obtain ⟨i, rfl, hi⟩ := inH_nat h
    rw [if_pos h]
    have := A.room_ok hi
    rw [← (A.rows i hi).1] at this
    exact this
  · rw [if_neg h]; exact roomH_no (findP_bad A ch h) (by decide)
theorem ChAt.send (part ch : Int) (M : List Int) (a : Option Addr) (cl : Nat) (hM : RowAt w (.slice a M.length cl) M) (hw : ∀ x ∈ M, 0 ≤ x ∧ x < 4294967296) :
    Calls Try.prog 22 #[.pointer (some ⟨X.xb, 0, none⟩), .int .i64 part, .int .i64 ch, .slice a M.length cl] w fun e w' => e = .returned (.int .i64 (sendE X.H Q part ch M.length)) ∧ ∃ L', ChAt w' X ff L' (sendQ X.H Q part ch M) ∧ Only w w' X.own ∧ ∀ k, ¬ X.inW k → L'.getD k 0 = L.getD k 0 := by
  have stay : ∀ {er : Int}, sendE X.H Q part ch M.length = er → er ≠ 0 → (Calls Try.prog 22 #[.pointer (some ⟨X.xb, 0, none⟩), .int .i64 part, .int .i64 ch, .slice a M.length cl] w fun e w' => e = .returned (.int .i64 er) ∧ Below w.heap.size w w') →
      Calls Try.prog 22 #[.pointer (some ⟨X.xb, 0, none⟩), .int .i64 part, .int .i64 ch, .slice a M.length cl] w fun e w' => e = .returned (.int .i64 (sendE X.H Q part ch M.length)) ∧ ∃ L', ChAt w' X ff L' (sendQ X.H Q part ch M) ∧ Only w w' X.own ∧ ∀ k, ¬ X.inW k → L'.getD k 0 = L.getD k 0 := fun he h0 hc => by
    unfold sendQ
    rw [he, if_neg h0]
    exact hc.mono fun e w' ⟨h1, h2⟩ => ⟨h1, L, A.below h2, Only.below h2, fun _ _ => rfl⟩
  by_cases h : mayE X.H part ch true = 0
  · obtain ⟨h1, rfl⟩ := mayE_in h
    obtain ⟨i, rfl, hi⟩ := inH_nat h1
    obtain ⟨r1, r2⟩ := A.rows i hi
    have hE : sendE X.H Q (whoH X.H i true) i M.length = if 1 ≤ M.length ∧ M.length ≤ X.wi i then (if (Q i).length < X.cp i then 0 else 12) else 2 := by
      unfold sendE
      rw [if_pos h, show atH X.H (i : Int) 3 = (X.wi i : Int) from r2, show atH X.H (i : Int) 2 = (X.cp i : Int) from r1, Int.toNat_natCast]
      simp only [Int.ofNat_le, Int.ofNat_lt]
    by_cases h2 : 1 ≤ M.length ∧ M.length ≤ X.wi i
    · rw [if_pos h2] at hE
      by_cases h3 : (Q i).length < X.cp i
      · rw [if_pos h3] at hE
        unfold sendQ
        rw [hE, if_pos rfl, Int.toNat_natCast]
        refine (A.send_ok hi M _ hM hw h2 h3).mono fun e w' ⟨e1, L', e2, e3, e4⟩ => ⟨e1, L', e2, e3, fun k hk => e4 k ?_⟩
        have : ¬ (X.fr i * 32 ≤ k ∧ k < X.fr i * 32 + X.wds i) := fun e => hk ⟨i, hi, e⟩
        omega
      · rw [if_neg h3] at hE
        exact stay hE (by decide) (A.send_full hi a _ cl h2 (by have := (A.ring i hi).mc; omega))
    · rw [if_neg h2] at hE
      exact stay hE (by decide) (A.send_bad hi a _ cl h2)
  · exact stay (by unfold sendE; rw [if_neg h]) h (sendH_no (A.endA part ch true h) h _)
theorem ChAt.recv (part ch : Int) : Calls Try.prog 23 #[.pointer (some ⟨X.xb, 0, none⟩), .int .i64 part, .int .i64 ch] w fun e w' => ∃ u ff', e = .returned (.tuple #[u, .int .i64 (recvE X.H Q part ch)]) ∧ MsgN w' u (recvM X.H Q part ch) ∧ ChAt w' X ff' L (recvQ X.H Q part ch) ∧ Only w w' X.own := by
  have stay : ∀ {er : Int}, recvE X.H Q part ch = er → er ≠ 0 → (Calls Try.prog 23 #[.pointer (some ⟨X.xb, 0, none⟩), .int .i64 part, .int .i64 ch] w fun e w' => e = .returned (.tuple #[.slice none 0 0, .int .i64 er]) ∧ Below w.heap.size w w') →
      Calls Try.prog 23 #[.pointer (some ⟨X.xb, 0, none⟩), .int .i64 part, .int .i64 ch] w fun e w' => ∃ u ff', e = .returned (.tuple #[u, .int .i64 (recvE X.H Q part ch)]) ∧ MsgN w' u (recvM X.H Q part ch) ∧ ChAt w' X ff' L (recvQ X.H Q part ch) ∧ Only w w' X.own := fun he h0 hc => by
    unfold recvQ recvM
    rw [he, if_neg h0, if_neg h0]
    exact hc.mono fun e w' ⟨h1, h2⟩ => ⟨_, ff, h1, Or.inl ⟨rfl, rfl⟩, A.below h2, Only.below h2⟩
  by_cases h : mayE X.H part ch false = 0
  · obtain ⟨h1, rfl⟩ := mayE_in h
    obtain ⟨i, rfl, hi⟩ := inH_nat h1
    cases hQ : Q i with
    | nil => exact stay (by unfold recvE; rw [if_pos h, Int.toNat_natCast, if_pos hQ]) (by decide) (A.recv_empty hi hQ)
    | cons M R =>
      have hE : recvE X.H Q (whoH X.H i false) i = 0 := by unfold recvE; rw [if_pos h, Int.toNat_natCast, if_neg (by rw [hQ]; simp)]
      unfold recvQ recvM
      rw [hE, if_pos rfl, if_pos rfl, Int.toNat_natCast, hQ]
      exact (A.recv_ok hi M R hQ).mono fun e w' ⟨g, e1, _, e3, e4, e5⟩ => ⟨_, _, e1, Or.inr ⟨g, _, rfl, e3⟩, e4, e5⟩
  · exact stay (by unfold recvE; rw [if_neg h]) h (recvH_no (A.endA part ch false h) h)
theorem ChAt.next (part ch : Int) : Calls Try.prog 28 #[.pointer (some ⟨X.xb, 0, none⟩), .int .i64 part, .int .i64 ch] w fun e w' => e = .returned (.tuple #[.int .i64 ((recvM X.H Q part ch).length : Int), .int .i64 (recvE X.H Q part ch)]) ∧ Below w.heap.size w w' := by
  have stay : ∀ {er : Int}, recvE X.H Q part ch = er → er ≠ 0 → (Calls Try.prog 28 #[.pointer (some ⟨X.xb, 0, none⟩), .int .i64 part, .int .i64 ch] w fun e w' => e = .returned (.tuple #[.int .i64 0, .int .i64 er]) ∧ Below w.heap.size w w') →
      Calls Try.prog 28 #[.pointer (some ⟨X.xb, 0, none⟩), .int .i64 part, .int .i64 ch] w fun e w' => e = .returned (.tuple #[.int .i64 ((recvM X.H Q part ch).length : Int), .int .i64 (recvE X.H Q part ch)]) ∧ Below w.heap.size w w' := fun he h0 hc => by
    unfold recvM
    rw [he, if_neg h0]
    exact hc
  by_cases h : mayE X.H part ch false = 0
  · obtain ⟨h1, rfl⟩ := mayE_in h
    obtain ⟨i, rfl, hi⟩ := inH_nat h1
    cases hQ : Q i with
    | nil => exact stay (by unfold recvE; rw [if_pos h, Int.toNat_natCast, if_pos hQ]) (by decide) (A.next_empty hi hQ)
    | cons M R =>
      have hE : recvE X.H Q (whoH X.H i false) i = 0 := by unfold recvE; rw [if_pos h, Int.toNat_natCast, if_neg (by rw [hQ]; simp)]
      unfold recvM
      rw [hE, if_pos rfl, Int.toNat_natCast, hQ]
      exact A.next_ok hi M R hQ
  · exact stay (by unfold recvE; rw [if_neg h]) h (nextH_no (A.endA part ch false h) h)
end
theorem sendE_in {H : List Row} {Q : Msgs} {part ch : Int} {n : Nat} (h : sendE H Q part ch n = 0) : inH H ch := by
  unfold sendE at h
  split at h
  · rename_i hm; exact (mayE_in hm).1
  · rename_i hm; exact absurd h hm
theorem recvE_in {H : List Row} {Q : Msgs} {part ch : Int} (h : recvE H Q part ch = 0) : inH H ch := by
  unfold recvE at h
  split at h
  · rename_i hm; exact (mayE_in hm).1
  · rename_i hm; exact absurd h hm
theorem ChAt.headLen {w : World} {X : ChX} {ff : Nat → Nat} {L : List Int} {Q : Msgs} (A : ChAt w X ff L Q) (part ch : Int) : (recvM X.H Q part ch).length ≤ 8 := by
  unfold recvM
  by_cases h : recvE X.H Q part ch = 0
  · rw [if_pos h]
    obtain ⟨i, rfl, hi⟩ := inH_nat (recvE_in h)
    rw [Int.toNat_natCast]
    cases hQ : Q i with
    | nil => simp
    | cons M R =>
      have h1 := (A.lie i hi) 0 (by rw [hQ]; simp)
      rw [hQ] at h1
      have h2 := (A.ring i hi).d8
      have h3 := h1.1.2
      simp only [List.getD_cons_zero] at h3
      show M.length ≤ 8
      omega
  · rw [if_neg h]; simp
end Go.Proofs.Ytnapodeiigkebaa
