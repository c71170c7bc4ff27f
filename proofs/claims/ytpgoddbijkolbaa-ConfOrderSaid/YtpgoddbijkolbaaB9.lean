/- The contracts of the document's own Text and Left, layer 5. Condition: the reader's bytes are 2000 at most. -/
import Derived.Test.YtpgoddbijkolbaaB8
namespace Go.Proofs.Ytpgoddbijkolbaa
open Go.RowKit
set_option maxRecDepth 100000

def RTextPost (w : World) (r : Nat) (a : Bool) (s : RdS) (e : Ending) (w' : World) : Prop := e = .returned (.bool a) ∧ RRd w' r s ∧ w.grownBy w' (some r)
def RTextPostL (w : World) (r : Nat) (S : List UInt8) (a : Bool) (s : RdS) (e : Ending) (w' : World) : Prop := e = .returned (.bool a) ∧ RRdL w' r S s ∧ w.grownBy w' (some r)
set_option maxHeartbeats 1000000 in
theorem rtext_bad0 (r : Nat) (S t : List UInt8) (at_ : Nat) (w : World) (h : RRdAt w r S at_ false) :
    Calls Try.prog 38 #[.pointer (some ⟨r, 0, none⟩), strV t] w (RTextPostL w r S false none) := by
  have H := Lib.hid h
  have c2 := h.c2
  have f2 := h.fr 2
  clear h
  go_enter Try.func38, Try.ntmps38
  go_wp2
  go_quiet (fail)
  go_wp2
  go_ret
  exact ⟨rfl, H.out.bad nq⟩
set_option maxHeartbeats 1000000 in
theorem rtext_bad1 (r : Nat) (S t : List UInt8) (at_ : Nat) (h3 : S.length < at_ + t.length) (w : World) (h : RRdAt w r S at_ true) :
    Calls Try.prog 38 #[.pointer (some ⟨r, 0, none⟩), strV t] w (RTextPostL w r S false none) := by
  have H := Lib.hid h
  have c0 := h.c0
  have c1 := h.c1
  have c2 := h.c2
  have f2 := h.fr 2
  have hl := h.le
  have ht := h.top
  have hs : (ByteArray.mk S.toArray).size = S.length := by simp [ByteArray.size]
  have hs2 : (ByteArray.mk t.toArray).size = t.length := by simp [ByteArray.size]
  have d3 : decide ((S.length : Int) - at_ < t.length) = true := by simp; omega
  have d4 : IntKind.i64.wrap ((S.length : Int) - at_) = (S.length : Int) - at_ := IntWalk.i64_in _ (by omega)
  clear h h3
  go_enter Try.func38, Try.ntmps38
  go_wp2
  go_quiet (fail)
  go_wp2
  go_ret
  exact ⟨rfl, H.out.bad nq⟩
theorem slice_str (S : List UInt8) (a n : Nat) (h : a + n ≤ S.length) (W : World) : (Instr.slice 9 (strV S) (some (.int .i64 (a : Int))) (some (.int .i64 ((a : Int) + n))) none).run Try.prog W = .ok (strV ((S.drop a).take n)) W := by
  have := run_slice_string (P := Try.prog) W 9 ⟨S.toArray⟩ .i64 .i64 (a : Int) ((a : Int) + n) Try.underlying9 (by omega) (by omega) (by simp [ByteArray.size]; omega)
  rw [this, ByteArray.extract_mk]
  rw [show ((a : Int) + n).toNat - (a : Int).toNat = n by omega, show (a : Int).toNat = a by omega]
set_option maxHeartbeats 1000000 in
theorem rtext_bad2 (r : Nat) (S t : List UInt8) (at_ : Nat) (h3 : at_ + t.length ≤ S.length) (hb : ((S.drop at_).take t.length == t) = false) (w : World) (h : RRdAt w r S at_ true) :
    Calls Try.prog 38 #[.pointer (some ⟨r, 0, none⟩), strV t] w (RTextPostL w r S false none) := by
  have H := Lib.hid h
  have c0 := h.c0
  have c1 := h.c1
  have c2 := h.c2
  have f2 := h.fr 2
  have hl := h.le
  have ht := h.top
  have hs : (ByteArray.mk S.toArray).size = S.length := by simp [ByteArray.size]
  have hs2 : (ByteArray.mk t.toArray).size = t.length := by simp [ByteArray.size]
  have d3 : decide ((S.length : Int) - at_ < t.length) = false := by simp; omega
  have d4 : IntKind.i64.wrap ((S.length : Int) - at_) = (S.length : Int) - at_ := IntWalk.i64_in _ (by omega)
  have d5 : IntKind.i64.wrap ((at_ : Int) + t.length) = (at_ : Int) + t.length := IntWalk.i64_in _ (by omega)
  have hsl := slice_str S at_ t.length h3
  clear h h3
  go_enter Try.func38, Try.ntmps38
  go_wp2
  go_quiet (fail)
  go_wp2
  go_ret
  exact ⟨rfl, H.out.bad nq⟩
set_option maxHeartbeats 1000000 in
theorem rtext_good (r : Nat) (S t : List UInt8) (at_ : Nat) (h3 : at_ + t.length ≤ S.length) (hb : ((S.drop at_).take t.length == t) = true) (w : World) (h : RRdAt w r S at_ true) :
    Calls Try.prog 38 #[.pointer (some ⟨r, 0, none⟩), strV t] w (RTextPostL w r S true (some ((S.drop at_).drop t.length))) := by
  have H := Lib.hid h
  have c0 := h.c0
  have c1 := h.c1
  have c2 := h.c2
  have f1 := h.fr 1
  have hl := h.le
  have ht := h.top
  have hs : (ByteArray.mk S.toArray).size = S.length := by simp [ByteArray.size]
  have hs2 : (ByteArray.mk t.toArray).size = t.length := by simp [ByteArray.size]
  have d3 : decide ((S.length : Int) - at_ < t.length) = false := by simp; omega
  have d4 : IntKind.i64.wrap ((S.length : Int) - at_) = (S.length : Int) - at_ := IntWalk.i64_in _ (by omega)
  have d5 : IntKind.i64.wrap ((at_ : Int) + t.length) = (at_ : Int) + t.length := IntWalk.i64_in _ (by omega)
  have hsl := slice_str S at_ t.length h3
  have h3' := h3
  have H3 := Lib.hid h3'
  clear h h3'
  go_enter Try.func38, Try.ntmps38
  go_wp2
  go_quiet (fail)
  clear d3 d4 d5 hsl hb
  go_wp2
  go_ret
  exact ⟨rfl, H.out.moved nq t.length H3.out⟩
theorem rtextL_ok (r : Nat) (S : List UInt8) (s : RdS) (t : List UInt8) (a : Bool) (s' : RdS) (hs : textS s t = (a, s')) (w : World) (h : RRdL w r S s) :
    Calls Try.prog 38 #[.pointer (some ⟨r, 0, none⟩), strV t] w (RTextPostL w r S a s') := by
  obtain ⟨at_, f, h, rfl⟩ := h
  have hle := h.le
  cases f with
  | false =>
    obtain ⟨rfl, rfl⟩ := Prod.mk.inj (show (false, none) = (a, s') from hs)
    exact rtext_bad0 r S t at_ w h
  | true =>
    by_cases hk : t.length ≤ (S.drop at_).length ∧ (S.drop at_).take t.length = t
    · have e : textS (stateOf S at_ true) t = (true, some ((S.drop at_).drop t.length)) := by
        show textS (some (S.drop at_)) t = _
        simp only [textS]; rw [if_pos hk]
      rw [e] at hs
      obtain ⟨rfl, rfl⟩ := Prod.mk.inj hs
      obtain ⟨h1, h2⟩ := hk
      rw [List.length_drop] at h1
      exact rtext_good r S t at_ (by omega) (by rw [h2]; simp) w h
    · have e : textS (stateOf S at_ true) t = (false, none) := by
        show textS (some (S.drop at_)) t = _
        simp only [textS]; rw [if_neg hk]
      rw [e] at hs
      obtain ⟨rfl, rfl⟩ := Prod.mk.inj hs
      rw [List.length_drop] at hk
      by_cases h1 : at_ + t.length ≤ S.length
      · exact rtext_bad2 r S t at_ h1 (by have : ¬ (S.drop at_).take t.length = t := fun e => hk ⟨by omega, e⟩; simpa using this) w h
      · exact rtext_bad1 r S t at_ (by omega) w h

theorem rtext_ok (r : Nat) (s : RdS) (t : List UInt8) (a : Bool) (s' : RdS) (hs : textS s t = (a, s')) (w : World) (h : RRd w r s) :
    Calls Try.prog 38 #[.pointer (some ⟨r, 0, none⟩), strV t] w (RTextPost w r a s') := by
  obtain ⟨S, at_, f, h, e⟩ := h
  exact (rtextL_ok r S s t a s' hs w ⟨at_, f, h, e⟩).mono fun e w' ⟨h1, h2, h3⟩ => ⟨h1, h2.weak, h3⟩
end Go.Proofs.Ytpgoddbijkolbaa
