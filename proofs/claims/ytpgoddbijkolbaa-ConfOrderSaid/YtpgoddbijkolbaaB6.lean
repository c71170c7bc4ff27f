/- The contracts of package octet's Num and Text, as steps of a reader's state. Condition: the reader lies as New laid it, or is spoilt, or there is none. -/
import Derived.Test.YtpgoddbijkolbaaB5
namespace Go.Proofs.Ytpgoddbijkolbaa
open Go.RowKit
set_option maxRecDepth 100000

abbrev RdS := Option (List UInt8)
/-- The number that comes next, and what is left behind it. -/
noncomputable def numS (s : RdS) (k : Int) : Nat × RdS := open Classical in
  match s with
  | some l => if okW k ∧ k.toNat ≤ l.length then (numOf (l.take k.toNat), some (l.drop k.toNat)) else (0, none)
  | none => (0, none)
/-- Do some bytes come next, and what is left behind them. -/
noncomputable def textS (s : RdS) (t : List UInt8) : Bool × RdS := open Classical in
  match s with
  | some l => if t.length ≤ l.length ∧ l.take t.length = t then (true, some (l.drop t.length)) else (false, none)
  | none => (false, none)
theorem num_ok (b : Nat) (s : RdS) (k : Int) (a : Nat) (s' : RdS) (hs : numS s k = (a, s')) (w : World) (h : Rd w b s) :
    Calls Try.prog 67 #[.pointer (some ⟨b, 0, none⟩), .int .i64 k] w fun e w' => e = .returned (.int .u32 (a : Int)) ∧ Rd w' b s' ∧ w.grownBy w' (some b) := by
  have hmf : ∀ (fn : Fn) (first cap : Array Value) (w : World), (Instr.makeFunc fn first cap).run Try.prog w = .ok (.func fn first cap) w := fun _ _ _ _ => rfl
  have H := Lib.hid h
  clear h
  by_cases hk : okW k
  · obtain ⟨j, rfl⟩ := Int.eq_ofNat_of_zero_le (show 0 ≤ k by have := hk.1; omega)
    have hj : j ≤ 4 := by have := hk.2; omega
    by_cases hh : has s j
    · obtain ⟨l, rfl, hl⟩ := hh
      have e : numS (some l) (j : Int) = (numOf (l.take j), some (l.drop j)) := by
        simp only [numS]
        rw [if_pos ⟨hk, hl⟩]; rfl
      rw [e] at hs
      obtain ⟨rfl, rfl⟩ := Prod.mk.inj hs
      clear hs e
      have HK := Lib.hid hk
      clear hk
      go_enter Try.func67, Try.ntmps67
      go_wp2_with (first | (go_at_call 81; refine (isWidth_yes _ HK.out _).mono ?_; rintro e w' ⟨rfl, rfl⟩) | (go_at_call 83; refine (number_yes b j l _ H.out hl hj).mono ?_; rintro e w' ⟨rfl, hr, hg⟩; have HR := Lib.hid hr; have HG := Lib.hid hg; clear hr hg))
      go_ret
      exact ⟨rfl, HR.out, HG.out⟩
    · have e : numS s (j : Int) = (0, none) := by
        cases s with
        | none => rfl
        | some l => simp only [numS]; rw [if_neg (fun h => hh ⟨l, rfl, h.2⟩)]
      rw [e] at hs
      obtain ⟨rfl, rfl⟩ := Prod.mk.inj hs
      clear hs e
      have HK := Lib.hid hk
      have HH := Lib.hid hh
      clear hk hh
      go_enter Try.func67, Try.ntmps67
      go_wp2_with (first | (go_at_call 81; refine (isWidth_yes _ HK.out _).mono ?_; rintro e w' ⟨rfl, rfl⟩) | (go_at_call 83; refine (number_none _ j _ (fun w' => Rd w' b none ∧ w.grownBy w' (some b)) (take_no b j s _ H.out HH.out)).mono ?_; rintro e w' ⟨rfl, hr, hg⟩; have HR := Lib.hid hr; have HG := Lib.hid hg; clear hr hg))
      go_ret
      exact ⟨rfl, HR.out, HG.out⟩
  · have e : numS s k = (0, none) := by
      cases s with
      | none => rfl
      | some l => simp only [numS]; rw [if_neg (fun h => hk h.1)]
    rw [e] at hs
    obtain ⟨rfl, rfl⟩ := Prod.mk.inj hs
    clear hs e
    have HK := Lib.hid hk
    clear hk
    go_enter Try.func67, Try.ntmps67
    go_wp2_with (first | (go_at_call 81; refine (isWidth_no _ HK.out _).mono ?_; rintro e w' ⟨rfl, rfl⟩) | (go_at_call 82; refine (spoil_ok b s _ H.out).mono ?_; rintro e w' ⟨rfl, hr, hg⟩; have HR := Lib.hid hr; have HG := Lib.hid hg; clear hr hg))
    go_ret
    exact ⟨rfl, HR.out, HG.out⟩
theorem num_nil (k : Int) (w : World) : Calls Try.prog 67 #[.pointer none, .int .i64 k] w fun e w' => e = .returned (.int .u32 0) ∧ w = w' := by
  have hmf : ∀ (fn : Fn) (first cap : Array Value) (w : World), (Instr.makeFunc fn first cap).run Try.prog w = .ok (.func fn first cap) w := fun _ _ _ _ => rfl
  by_cases hk : okW k
  · have HK := Lib.hid hk
    clear hk
    go_enter Try.func67, Try.ntmps67
    go_wp2_with (first | (go_at_call 81; refine (isWidth_yes _ HK.out _).mono ?_; rintro e w' ⟨rfl, rfl⟩) | (go_at_call 83; refine (number_none none k _ (fun w' => w = w') (take_nil k _)).mono ?_; rintro e w' ⟨rfl, rfl⟩))
    go_ret
    exact ⟨rfl, rfl⟩
  · have HK := Lib.hid hk
    clear hk
    go_enter Try.func67, Try.ntmps67
    go_wp2_with (first | (go_at_call 81; refine (isWidth_no _ HK.out _).mono ?_; rintro e w' ⟨rfl, rfl⟩) | (go_at_call 82; refine (spoil_nil _).mono ?_; rintro e w' ⟨rfl, rfl⟩))
    go_ret
    exact ⟨rfl, rfl⟩

theorem text_ok (b : Nat) (s : RdS) (t : List UInt8) (a : Bool) (s' : RdS) (hs : textS s t = (a, s')) (w : World) (h : Rd w b s) :
    Calls Try.prog 69 #[.pointer (some ⟨b, 0, none⟩), strV t] w fun e w' => e = .returned (.bool a) ∧ Rd w' b s' ∧ w.grownBy w' (some b) := by
  have hmf : ∀ (fn : Fn) (first cap : Array Value) (w : World), (Instr.makeFunc fn first cap).run Try.prog w = .ok (.func fn first cap) w := fun _ _ _ _ => rfl
  have H := Lib.hid h
  clear h
  by_cases hh : has s t.length
  · obtain ⟨l, rfl, hl⟩ := hh
    by_cases ht : l.take t.length = t
    · have e : textS (some l) t = (true, some (l.drop t.length)) := by
        simp only [textS]
        rw [if_pos ⟨hl, ht⟩]
      rw [e] at hs
      obtain ⟨rfl, rfl⟩ := Prod.mk.inj hs
      clear hs e
      have hb : (l.take t.length == t) = true := by rw [ht]; simp
      have HB := Lib.hid hb
      clear hb ht
      go_enter Try.func69, Try.ntmps69
      go_wp2_with (go_at_call 85; refine (comes_yes b l t _ H.out hl).mono ?_; rintro e w' ⟨rfl, hr, hg⟩; rw [HB.out]; have HR := Lib.hid hr; have HG := Lib.hid hg; clear hr hg)
      go_ret
      exact ⟨rfl, HR.out, HG.out⟩
    · have e : textS (some l) t = (false, none) := by
        simp only [textS]
        rw [if_neg (fun h => ht h.2)]
      rw [e] at hs
      obtain ⟨rfl, rfl⟩ := Prod.mk.inj hs
      clear hs e
      have hb : (l.take t.length == t) = false := by simpa using ht
      have HB := Lib.hid hb
      clear hb ht
      go_enter Try.func69, Try.ntmps69
      go_wp2_with (first | (go_at_call 85; refine (comes_yes b l t _ H.out hl).mono ?_; rintro e w' ⟨rfl, hr, hg⟩; rw [HB.out]; have HR := Lib.hid hr; have HG := Lib.hid hg; clear hr hg) | (go_at_call 82; refine (spoil_ok b _ _ HR.out).mono ?_; rintro e w2 ⟨rfl, hr, hg⟩; have HR2 := Lib.hid hr; have HG2 := Lib.hid hg; clear hr hg))
      go_ret
      exact ⟨rfl, HR2.out, grownBy_trans HG.out HG2.out⟩
  · have e : textS s t = (false, none) := by
      cases s with
      | none => rfl
      | some l => simp only [textS]; rw [if_neg (fun h => hh ⟨l, rfl, h.1⟩)]
    rw [e] at hs
    obtain ⟨rfl, rfl⟩ := Prod.mk.inj hs
    clear hs e
    have HH := Lib.hid hh
    clear hh
    go_enter Try.func69, Try.ntmps69
    go_wp2_with (first | (go_at_call 85; refine (comes_none _ t _ (fun w' => Rd w' b none ∧ w.grownBy w' (some b)) (take_no b t.length s _ H.out HH.out)).mono ?_; rintro e w' ⟨rfl, hr, hg⟩; have HR := Lib.hid hr; have HG := Lib.hid hg; clear hr hg) | (go_at_call 82; refine (spoil_ok b _ _ HR.out).mono ?_; rintro e w2 ⟨rfl, hr, hg⟩; have HR2 := Lib.hid hr; have HG2 := Lib.hid hg; clear hr hg))
    go_ret
    exact ⟨rfl, HR2.out, grownBy_trans HG.out HG2.out⟩
theorem text_nil (t : List UInt8) (w : World) : Calls Try.prog 69 #[.pointer none, strV t] w fun e w' => e = .returned (.bool false) ∧ w = w' := by
  have hmf : ∀ (fn : Fn) (first cap : Array Value) (w : World), (Instr.makeFunc fn first cap).run Try.prog w = .ok (.func fn first cap) w := fun _ _ _ _ => rfl
  go_enter Try.func69, Try.ntmps69
  go_wp2_with (first | (go_at_call 85; refine (comes_none none t _ (fun w' => w = w') (take_nil _ _)).mono ?_; rintro e w' ⟨rfl, rfl⟩) | (go_at_call 82; refine (spoil_nil _).mono ?_; rintro e w' ⟨rfl, rfl⟩))
  go_ret
  exact ⟨rfl, rfl⟩
end Go.Proofs.Ytpgoddbijkolbaa
