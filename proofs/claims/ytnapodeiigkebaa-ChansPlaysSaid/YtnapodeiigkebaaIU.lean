/- Texts of mine, joined: H2 H3 H4 H5. What each says and under which conditions stands at its head, below. -/
import Derived.Test.YtnapodeiigkebaaH1
import Derived.Test.YtnapodeiigkebaaIS
import Derived.Test.YtnapodeiigkebaaGA0
/- Channels in memory; the contract of package chans' find. Conditions: the channels lie as New laid them, or there are none, or nobody made them. -/
namespace Go.Proofs.Ytnapodeiigkebaa
open Go.RowKit
set_option maxRecDepth 100000

/-- What channels are made of that stays: their block, the memory's, its frames' and how many, the row's value, the configuration's rows, each one's first frame, each one's ring. -/
structure ChX where
  base : Nat
  xb : Nat
  mp : Nat
  fb : Nat
  n : Nat
  v : Value
  H : List Row
  fr : Nat → Nat
  rb : Nat → Nat
namespace ChX
variable (X : ChX)
def at_ (i j : Nat) : Int := (X.H.getD i []).getD j 0
def cp (i : Nat) : Nat := (X.at_ i 2).toNat
def wi (i : Nat) : Nat := (X.at_ i 3).toNat
def wds (i : Nat) : Nat := wdsG (X.cp i) (X.wi i)
end ChX
/-- A channel's cells. -/
def chA (r : Nat) (a b c d : Int) (mp f : Nat) : Array Value := #[.pointer (some ⟨r, 0, none⟩), .int .i64 a, .int .i64 b, .int .i64 c, .int .i64 d, .pointer (some ⟨mp, 0, none⟩), .int .i64 (f : Int)]
def chZ : Array Value := #[.pointer none, .int .i64 0, .int .i64 0, .int .i64 0, .int .i64 0, .pointer none, .int .i64 0]
def ChX.ch (X : ChX) (i : Nat) : Array Value := chA (X.rb i) (X.at_ i 0) (X.at_ i 1) (X.at_ i 2) (X.at_ i 3) X.mp (X.fr i)
def ChX.cells (X : ChX) (k : Nat) : List Value := (List.range k).flatMap fun i => (X.ch i).toList
theorem ChX.cells_succ (X : ChX) (k : Nat) : X.cells (k + 1) = X.cells k ++ (X.ch k).toList := by simp [ChX.cells, List.range_succ]
theorem ChX.ch_length (X : ChX) (i : Nat) : (X.ch i).toList.length = 7 := rfl
theorem ChX.cells_length (X : ChX) (k : Nat) : (X.cells k).length = k * 7 := by
  induction k with
  | zero => rfl
  | succ k ih => rw [cells_succ, List.length_append, ih, ch_length]; omega
theorem ChX.cells_pre (X : ChX) {i k : Nat} (h : i < k) : ∃ R, (X.cells k).drop (i * 7) = (X.ch i).toList ++ R := by
  obtain ⟨m, rfl⟩ : ∃ m, k = i + 1 + m := ⟨k - i - 1, by omega⟩
  clear h
  induction m with
  | zero => exact ⟨[], by rw [Nat.add_zero, cells_succ, List.drop_append_of_le_length (by rw [cells_length]; omega), List.drop_of_length_le (by rw [cells_length]; omega)]; simp⟩
  | succ m ih =>
    obtain ⟨R, hR⟩ := ih
    refine ⟨R ++ (X.ch (i + 1 + m)).toList, ?_⟩
    rw [show i + 1 + (m + 1) = (i + 1 + m) + 1 from rfl, cells_succ, List.drop_append_of_le_length (by rw [cells_length]; omega), hR, List.append_assoc]
/-- Channels lie in memory: where each ring's first message stands, the memory's words, each one's messages. -/
structure ChAt (w : World) (X : ChX) (ff : Nat → Nat) (L : List Int) (Q : Nat → List (List Int)) : Prop where
  box : w.heap[X.xb]? = some (.cells #[.pointer (some ⟨X.mp, 0, none⟩), X.v] 70 (0, 0))
  parts : w.ownsRow X.base 93 7 X.v X.H.length (X.cells X.H.length)
  few : X.H.length ≤ 16
  mem : MemSt w X.mp X.fb X.n L
  wd : ∀ i, 0 ≤ L.getD i 0 ∧ L.getD i 0 < 4294967296
  ring : ∀ i, i < X.H.length → RngAt w (X.rb i) (X.cp i) (X.wi i) (ff i) (Q i).length
  lie : ∀ i, i < X.H.length → LieG (X.cp i) (X.wi i) (ff i) (fun j => L.getD (X.fr i * 32 + j) 0) (Q i)
  rows : ∀ i, i < X.H.length → X.at_ i 2 = (X.cp i : Int) ∧ X.at_ i 3 = (X.wi i : Int)
  room : ∀ i, i < X.H.length → X.fr i * 32 + X.wds i ≤ X.n * 32
  apart : ∀ i j, i < j → j < X.H.length → X.fr i * 32 + X.wds i ≤ X.fr j * 32
  nodup : ∀ i j, i < X.H.length → j < X.H.length → X.rb i = X.rb j → i = j
/-- Their blocks that calls change. -/
def ChX.own (X : ChX) : Nat → Prop := fun j => memB X.mp X.fb j ∨ ∃ i, i < X.H.length ∧ j = X.rb i
section
variable {w w' : World} {X : ChX} {ff : Nat → Nat} {L : List Int} {Q : Nat → List (List Int)} (A : ChAt w X ff L Q)
include A
theorem ChAt.c0 : w.cell? ⟨X.xb, 0, none⟩ = some (.pointer (some ⟨X.mp, 0, none⟩)) := by rw [cell_of_row w X.xb _ _ _ _ A.box]; rfl
theorem ChAt.c1 : w.cell? ⟨X.xb, 1, none⟩ = some X.v := by rw [cell_of_row w X.xb _ _ _ _ A.box]; rfl
theorem ChAt.below (hb : Below w.heap.size w w') : ChAt w' X ff L Q :=
  ⟨below_block hb A.box, own_step A.parts hb, A.few, A.mem.below hb, A.wd, fun i hi => (A.ring i hi).below hb, A.lie, A.rows, A.room, A.apart, A.nodup⟩
theorem ChAt.keep {S : Nat → Prop} (ho : Only w w' S) (h1 : ¬ S X.xb) (h2 : ∀ g, X.v.ownBlock = some g → ¬ S g) (h3 : ∀ j, X.own j → ¬ S j) : ChAt w' X ff L Q :=
  ⟨ho.kept A.box h1, ownsRow_only A.parts ho h2, A.few, A.mem.stayH ho (h3 _ (Or.inl (Or.inl rfl))) (h3 _ (Or.inl (Or.inr rfl))), A.wd, fun i hi => (A.ring i hi).only ho (h3 _ (Or.inr ⟨i, hi, rfl⟩)), A.lie, A.rows, A.room, A.apart, A.nodup⟩
/-- What kinds of things lie there. -/
theorem ChAt.kinds : ∀ j, X.own j → ∃ cs t, w.heap[j]? = some (.cells cs t (0, 0)) ∧ (t = 76 ∨ t = 122 ∨ t = 120) := by
  rintro j ((rfl | rfl) | ⟨i, hi, rfl⟩)
  · exact ⟨_, _, A.mem.box, Or.inl rfl⟩
  · exact ⟨_, _, A.mem.row, Or.inr (Or.inl rfl)⟩
  · exact ⟨_, _, (A.ring i hi).box, Or.inr (Or.inr rfl)⟩
/-- A block of another kind is none of theirs. -/
theorem ChAt.other {k : Nat} {cs : Array Value} {t : TypeId} (h : w.heap[k]? = some (.cells cs t (0, 0))) (h1 : t ≠ 76) (h2 : t ≠ 122) (h3 : t ≠ 120) : ¬ X.own k := fun e => by
  obtain ⟨cs', t', h', ht⟩ := A.kinds k e
  rw [h] at h'
  simp only [Option.some.injEq, Obj.cells.injEq] at h'
  rcases ht with e | e | e
  · exact h1 (h'.2.1.trans e)
  · exact h2 (h'.2.1.trans e)
  · exact h3 (h'.2.1.trans e)
theorem ChAt.slice : ∃ a c, X.v = .slice a X.H.length c := owns_slice A.parts
theorem ChAt.chan (i : Nat) (hi : i < X.H.length) : ∃ b c, X.v = .slice (some ⟨b, 0, none⟩) X.H.length c ∧ b < w.heap.size ∧ ∀ V, Below w.heap.size w V → V.rangeAt b (i * 7) (X.ch i).toList := by
  rcases row_cut A.parts i with ⟨_, h0⟩ | ⟨b, c, hv, _, _, hlt, _, hc⟩
  · omega
  · refine ⟨b, c, hv, hlt, fun V hV j u hu => ?_⟩
    obtain ⟨R, hR⟩ := X.cells_pre hi
    have := hc j u (by rw [hR, List.getElem?_append_left (List.getElem?_eq_some_iff.1 hu).1]; exact hu)
    rw [Addr.add_mid] at this
    exact (hV.cell (p := ⟨b, i * 7 + j, none⟩) hlt).trans this
end
theorem chTy : RowTy 93 7 := ⟨⟨_, Try.underlying93, rfl⟩, by kernel_rfl⟩
theorem chOne (r : Nat) (a b c d : Int) (mp f : Nat) : (chA r a b c d mp f).all (·.oneCell') = true := by simp [chA, Value.oneCell']
theorem chInfo : (Try.prog.info? 93).map (fun i => (i.zero, i.size, i.bytes)) = some (some (.agg chZ), 7, 56) := by kernel_rfl
/-- No channels: none are there, or nobody made them. -/
def NoCh (w : World) (p : Option Addr) : Prop := p = none ∨ ∃ b, p = some ⟨b, 0, none⟩ ∧ w.cell? ⟨b, 0, none⟩ = some (.pointer none) ∧ b < w.heap.size
theorem NoCh.below {w w' : World} {p : Option Addr} (h : NoCh w p) (hb : Below w.heap.size w w') : NoCh w' p := by
  rcases h with h | ⟨b, e, h, hlt⟩
  · exact Or.inl h
  · exact Or.inr ⟨b, e, (hb.cell (p := ⟨b, 0, none⟩) hlt).trans h, Nat.lt_of_lt_of_le hlt hb.size⟩
theorem find_noH (p : Option Addr) (ch : Int) (w : World) (h : NoCh w p) : Calls Try.prog 39 #[.pointer p, .int .i64 ch] w fun e w' => e = .returned (.tuple #[.agg chZ, .int .i64 1]) ∧ Below w.heap.size w w' := by
  have N1 := Lib.hid (heap_alloc_new w (.cells chZ 93))
  have B1 := Lib.hid (below_step1 w (.cells chZ 93))
  rcases h with rfl | ⟨b, rfl, hc, hlt⟩
  · unfold chZ at N1 B1 ⊢
    go_enter Try.func39, Try.ntmps39
    go_wp2
    exact bodyPost_ret (v := .tuple #[.agg chZ, .int .i64 1]) (resR2 chTy Try.results39 _ _ w.heap.size chZ _ rfl rfl N1.out rfl) rfl ⟨rfl, B1.out⟩
  · have c0 := (B1.out.cell (p := ⟨b, 0, none⟩) hlt).trans hc
    unfold chZ at N1 B1 c0 ⊢
    go_enter Try.func39, Try.ntmps39
    go_wp2
    exact bodyPost_ret (v := .tuple #[.agg chZ, .int .i64 1]) (resR2 chTy Try.results39 _ _ w.heap.size chZ _ rfl rfl N1.out rfl) rfl ⟨rfl, B1.out⟩
section
variable {w : World} {X : ChX} {ff : Nat → Nat} {L : List Int} {Q : Nat → List (List Int)}
theorem find_badH (A : ChAt w X ff L Q) (ch : Int) (hc : ch < 0 ∨ (0 ≤ ch ∧ X.H.length ≤ ch)) : Calls Try.prog 39 #[.pointer (some ⟨X.xb, 0, none⟩), .int .i64 ch] w fun e w' => e = .returned (.tuple #[.agg chZ, .int .i64 4]) ∧ Below w.heap.size w w' := by
  have N1 := Lib.hid (heap_alloc_new w (.cells chZ 93))
  have B1 := Lib.hid (below_step1 w (.cells chZ 93))
  have c0 := (A.below B1.out).c0
  have c1 := (A.below B1.out).c1
  obtain ⟨a, cl, hv⟩ := A.slice
  rw [hv] at c1
  generalize X.H.length = k at c1 hc
  clear hv A
  unfold chZ at N1 B1 c0 c1 ⊢
  rcases hc with hc | ⟨h0, hc⟩
  · have d0 : decide (ch < 0) = true := decide_eq_true hc
    go_enter Try.func39, Try.ntmps39
    go_wp2
    exact bodyPost_ret (v := .tuple #[.agg chZ, .int .i64 4]) (resR2 chTy Try.results39 _ _ w.heap.size chZ _ rfl rfl N1.out rfl) rfl ⟨rfl, B1.out⟩
  · have d0 : decide (ch < 0) = false := decide_eq_false (by omega)
    have d1 : decide ((k : Int) ≤ ch) = true := decide_eq_true hc
    go_enter Try.func39, Try.ntmps39
    go_wp2
    exact bodyPost_ret (v := .tuple #[.agg chZ, .int .i64 4]) (resR2 chTy Try.results39 _ _ w.heap.size chZ _ rfl rfl N1.out rfl) rfl ⟨rfl, B1.out⟩
theorem find_okH (A : ChAt w X ff L Q) (i : Nat) (hi : i < X.H.length) : Calls Try.prog 39 #[.pointer (some ⟨X.xb, 0, none⟩), .int .i64 (i : Int)] w fun e w' => e = .returned (.tuple #[.agg (X.ch i), .int .i64 0]) ∧ Below w.heap.size w w' := by
  have N1 := Lib.hid (heap_alloc_new w (.cells chZ 93))
  have B1 := Lib.hid (below_step1 w (.cells chZ 93))
  have c0 := (A.below B1.out).c0
  have c1 := (A.below B1.out).c1
  obtain ⟨b, cl, hv, hlt, hr⟩ := A.chan i hi
  have RR := Lib.hid (hr _ B1.out)
  rw [hv] at c1
  obtain ⟨⟨d, hu, hd⟩, hs⟩ := chTy
  have HU := Lib.hid hu
  have HS := Lib.hid hs
  have C1 := Lib.hid (show (X.ch i).all (·.oneCell') = true from chOne _ _ _ _ _ _ _)
  have CS := Lib.hid (show (X.ch i).size = 7 from rfl)
  have d0 : decide ((i : Int) < 0) = false := decide_eq_false (by omega)
  have d1 : decide ((X.H.length : Int) ≤ (i : Int)) = false := decide_eq_false (by omega)
  have d2 : decide (X.H.length ≤ i) = false := decide_eq_false (by omega)
  generalize X.H.length = k at c1 hi d1 d2
  generalize X.ch i = cs at RR C1 CS ⊢
  clear hv A hr hu hs
  unfold chZ at N1 B1 c0 c1 RR
  go_enter Try.func39, Try.ntmps39
  go_wp2_with (first
    | (refine wpList_load_mid rfl 93 (.tmp 35) rfl b (i * 7) rfl cs.toList d RR.out HU.out hd (by rw [HS.out, Array.length_toList, CS.out]) ?_)
    | (refine wpR_store chTy rfl (.tmp 4) (.tmp 36) rfl w.heap.size cs rfl rfl _ N1.out CS.out rfl C1.out ?_))
  exact bodyPost_ret (v := .tuple #[.agg cs, .int .i64 0]) (resR2 chTy Try.results39 _ _ w.heap.size cs _ rfl rfl (setRow_heap _ _ _ _ _ _ N1.out) CS.out) rfl ⟨rfl, below_setRow B1.out (Nat.le_refl _) _⟩
end
end Go.Proofs.Ytnapodeiigkebaa

/- The contracts of package chans' end, May, Words, Room. Conditions: the channels lie as New laid them, or there are none, or nobody made them. -/
namespace Go.Proofs.Ytnapodeiigkebaa
open Go.RowKit
set_option maxRecDepth 100000

/-- What find answers, and leaves. -/
def FindP (p : Value) (ch : Int) (cs : Array Value) (er : Int) (w : World) : Prop := ∀ V, Below w.heap.size w V → Calls Try.prog 39 #[p, .int .i64 ch] V fun e w' => e = .returned (.tuple #[.agg cs, .int .i64 er]) ∧ Below V.heap.size V w'
/-- What end answers, and leaves. -/
def EndP (p : Value) (part ch : Int) (send : Bool) (cs : Array Value) (er : Int) (w : World) : Prop := ∀ V, Below w.heap.size w V → Calls Try.prog 38 #[p, .int .i64 part, .int .i64 ch, .bool send] V fun e w' => e = .returned (.tuple #[.agg cs, .int .i64 er]) ∧ Below V.heap.size V w'
theorem findP_no {p : Option Addr} {w : World} (h : NoCh w p) (ch : Int) : FindP (.pointer p) ch chZ 1 w := fun _ hV => find_noH p ch _ (h.below hV)
section
variable {w : World} {X : ChX} {ff : Nat → Nat} {L : List Int} {Q : Nat → List (List Int)}
theorem findP_bad (A : ChAt w X ff L Q) (ch : Int) (hc : ¬ (0 ≤ ch ∧ ch < X.H.length)) : FindP (.pointer (some ⟨X.xb, 0, none⟩)) ch chZ 4 w := fun _ hV => find_badH (A.below hV) ch (by omega)
theorem findP_ok (A : ChAt w X ff L Q) (i : Nat) (hi : i < X.H.length) : FindP (.pointer (some ⟨X.xb, 0, none⟩)) (i : Int) (X.ch i) 0 w := fun _ hV => find_okH (A.below hV) i hi
end
theorem chZOne : chZ.all (·.oneCell') = true := by simp [chZ, Value.oneCell']
theorem endP_err {p : Value} {ch er : Int} {w : World} (F : FindP p ch chZ er w) (h0 : er ≠ 0) (part : Int) (send : Bool) : EndP p part ch send chZ er w := fun V hV => by
  have N1 := Lib.hid (heap_alloc_new V (.cells chZ 93))
  have B1 := Lib.hid (below_step1 V (.cells chZ 93))
  have F1 := Lib.hid (F _ (hV.trans (B1.out.mono hV.size)))
  have Z := Lib.hid fun W : World => heap_alloc_new W (.cells chZ 93)
  have ZB := Lib.hid fun W : World => below_step1 W (.cells chZ 93)
  have g0 : (er == 0) = false := by simpa using h0
  clear F hV
  unfold chZ at *
  go_enter Try.func38, Try.ntmps38
  go_wp2_with fail
  refine F1.out.mono ?_
  rintro e w2 ⟨rfl, hb⟩
  have B2 := Lib.hid (B1.out.trans (hb.mono B1.out.size))
  have X2 := Lib.hid (below_block hb N1.out)
  have X3 := Lib.hid (below_block (ZB.out w2) X2.out)
  clear hb
  go_wp2_with (refine wpR_store chTy rfl (.tmp 8) (.tmp 21) rfl V.heap.size chZ rfl rfl _ X3.out rfl rfl chZOne ?_)
  exact bodyPost_ret (v := .tuple #[.agg chZ, .int .i64 er]) (resR2 chTy Try.results38 _ _ V.heap.size chZ _ rfl rfl (setRow_heap _ _ _ _ _ _ X3.out) rfl) rfl ⟨rfl, below_setRow (B2.out.trans ((ZB.out w2).mono B2.out.size)) (Nat.le_refl _) _⟩
theorem endP_found {p : Value} {r mp f : Nat} {a b c d ch : Int} {w : World} (F : FindP p ch (chA r a b c d mp f) 0 w) (part : Int) (send : Bool) :
    EndP p part ch send (if part = (if send then a else b) then chA r a b c d mp f else chZ) (if part = (if send then a else b) then 0 else 8) w := fun V hV => by
  have N1 := Lib.hid (heap_alloc_new V (.cells chZ 93))
  have B1 := Lib.hid (below_step1 V (.cells chZ 93))
  have F1 := Lib.hid (F _ (hV.trans (B1.out.mono hV.size)))
  have Z := Lib.hid fun W : World => heap_alloc_new W (.cells (chA r a b c d mp f) 93)
  have ZB := Lib.hid fun W : World => below_step1 W (.cells (chA r a b c d mp f) 93)
  have C1 := Lib.hid (chOne r a b c d mp f)
  clear F hV
  obtain ⟨who, hwho⟩ : ∃ who, who = (if send then a else b) := ⟨_, rfl⟩
  rw [← hwho]
  unfold chZ at N1 B1 F1
  unfold chA at F1 Z ZB C1
  by_cases hp : part = who
  · have g0 : (part == who) = true := by simpa using hp
    rw [if_pos hp, if_pos hp]
    clear hp
    cases send <;> simp only [Bool.false_eq_true, if_false, if_true] at hwho <;> rw [hwho] at g0 <;> clear hwho
    all_goals
      go_enter Try.func38, Try.ntmps38
      go_wp2_with fail
      refine F1.out.mono ?_
      rintro e w2 ⟨rfl, hb⟩
      have B2 := Lib.hid (B1.out.trans (hb.mono B1.out.size))
      have X2 := Lib.hid (below_block hb N1.out)
      have X3 := Lib.hid (below_block (ZB.out w2) X2.out)
      clear hb
      go_wp2_with (first
        | (refine wpR_load chTy rfl (.tmp 10) rfl w2.heap.size rfl _ (Z.out w2) rfl ?_)
        | (refine wpR_store chTy rfl (.tmp 8) (.tmp 34) rfl V.heap.size _ rfl rfl _ X3.out rfl rfl C1.out ?_))
      exact bodyPost_ret (v := .tuple #[.agg (chA r a b c d mp f), .int .i64 0]) (resR2 chTy Try.results38 _ _ V.heap.size (chA r a b c d mp f) _ rfl rfl (setRow_heap _ _ _ _ _ _ X3.out) rfl) rfl ⟨rfl, below_setRow (B2.out.trans ((ZB.out w2).mono B2.out.size)) (Nat.le_refl _) _⟩
  · have g0 : (part == who) = false := by simpa using hp
    rw [if_neg hp, if_neg hp]
    clear hp
    cases send <;> simp only [Bool.false_eq_true, if_false, if_true] at hwho <;> rw [hwho] at g0 <;> clear hwho
    all_goals
      go_enter Try.func38, Try.ntmps38
      go_wp2_with fail
      refine F1.out.mono ?_
      rintro e w2 ⟨rfl, hb⟩
      have B2 := Lib.hid (B1.out.trans (hb.mono B1.out.size))
      have X2 := Lib.hid (below_block hb N1.out)
      have X3 := Lib.hid (below_block (ZB.out w2) X2.out)
      clear hb
      go_wp2_with (refine wpR_store chTy rfl (.tmp 8) (.tmp 33) rfl V.heap.size chZ rfl rfl _ X3.out rfl rfl chZOne ?_)
      exact bodyPost_ret (v := .tuple #[.agg chZ, .int .i64 8]) (resR2 chTy Try.results38 _ _ V.heap.size chZ _ rfl rfl (setRow_heap _ _ _ _ _ _ X3.out) rfl) rfl ⟨rfl, below_setRow (B2.out.trans ((ZB.out w2).mono B2.out.size)) (Nat.le_refl _) _⟩
end Go.Proofs.Ytnapodeiigkebaa

/- The contracts of package chans' May, Words, Room, and of Send, Recv, Next over what their rings' calls do. Conditions: named in the theorems. -/
namespace Go.Proofs.Ytnapodeiigkebaa
open Go.RowKit
set_option maxRecDepth 100000

theorem mayH_ok {p : Value} {part ch er : Int} {send : Bool} {cs : Array Value} {w : World} (E : EndP p part ch send cs er w) (hs : cs.size = 7) (h1 : cs.all (·.oneCell') = true) : Calls Try.prog 16 #[p, .int .i64 part, .int .i64 ch, .bool send] w fun e w' => e = .returned (.int .i64 er) ∧ Below w.heap.size w w' := by
  have E0 := Lib.hid (E w (Below.refl _ _))
  have Z := Lib.hid fun W : World => heap_alloc_new W (.cells chZ 93)
  have ZB := Lib.hid fun W : World => below_step1 W (.cells chZ 93)
  have HS := Lib.hid hs
  have H1 := Lib.hid h1
  clear E hs h1
  unfold chZ at Z ZB
  go_enter Try.func16, Try.ntmps16
  go_wp2_with fail
  refine E0.out.mono ?_
  rintro e w2 ⟨rfl, hb⟩
  have B2 := Lib.hid hb
  clear hb
  go_wp2_with (refine wpR_store chTy rfl (.tmp 9) (.tmp 17) rfl w2.heap.size cs rfl rfl _ (Z.out w2) HS.out rfl H1.out ?_)
  go_ret
  exact ⟨rfl, below_setRow (B2.out.trans ((ZB.out w2).mono B2.out.size)) B2.out.size _⟩
theorem wordsH_no {p : Value} {ch er : Int} {w : World} (F : FindP p ch chZ er w) : Calls Try.prog 20 #[p, .int .i64 ch] w fun e w' => e = .returned (.int .i64 0) ∧ Below w.heap.size w w' := by
  have F0 := Lib.hid (F w (Below.refl _ _))
  have ZB := Lib.hid fun W : World => below_step1 W (.cells chZ 93)
  clear F
  unfold chZ at F0 ZB
  go_enter Try.func20, Try.ntmps20
  go_wp2_with fail
  refine F0.out.mono ?_
  rintro e w2 ⟨rfl, hb⟩
  have B2 := Lib.hid hb
  clear hb
  go_wp2
  go_ret
  exact ⟨rfl, B2.out.trans ((ZB.out w2).mono B2.out.size)⟩
theorem wordsH_ok {p : Value} {ch : Int} {r mp f : Nat} {a b c d : Int} {w : World} (F : FindP p ch (chA r a b c d mp f) 0 w) : Calls Try.prog 20 #[p, .int .i64 ch] w fun e w' => e = .returned (.int .i64 d) ∧ Below w.heap.size w w' := by
  have F0 := Lib.hid (F w (Below.refl _ _))
  have ZB := Lib.hid fun W : World => below_step1 W (.cells (chA r a b c d mp f) 93)
  clear F
  unfold chA at F0 ZB
  go_enter Try.func20, Try.ntmps20
  go_wp2_with fail
  refine F0.out.mono ?_
  rintro e w2 ⟨rfl, hb⟩
  have B2 := Lib.hid hb
  clear hb
  go_wp2
  go_ret
  exact ⟨rfl, B2.out.trans ((ZB.out w2).mono B2.out.size)⟩
theorem roomH_no {p : Value} {ch er : Int} {w : World} (F : FindP p ch chZ er w) (h0 : er ≠ 0) : Calls Try.prog 18 #[p, .int .i64 ch] w fun e w' => e = .returned (.int .i64 0) ∧ Below w.heap.size w w' := by
  have F0 := Lib.hid (F w (Below.refl _ _))
  have ZB := Lib.hid fun W : World => below_step1 W (.cells chZ 93)
  have g0 : (er == 0) = false := by simpa using h0
  clear F
  unfold chZ at F0 ZB
  go_enter Try.func18, Try.ntmps18
  go_wp2_with fail
  refine F0.out.mono ?_
  rintro e w2 ⟨rfl, hb⟩
  have B2 := Lib.hid hb
  clear hb
  go_wp2
  go_ret
  exact ⟨rfl, B2.out.trans ((ZB.out w2).mono B2.out.size)⟩
theorem roomH_ok {p : Value} {ch : Int} {r mp f m c fs wi : Nat} {a b d : Int} {w : World} (F : FindP p ch (chA r a b (c : Int) d mp f) 0 w) (R : RngAt w r c wi fs m) : Calls Try.prog 18 #[p, .int .i64 ch] w fun e w' => e = .returned (.int .i64 ((c : Int) - (m : Int))) ∧ Below w.heap.size w w' := by
  have F0 := Lib.hid (F w (Below.refl _ _))
  have ZB := Lib.hid fun W : World => below_step1 W (.cells (chA r a b c d mp f) 93)
  have LG := Lib.hid fun V (hV : Below w.heap.size w V) => len_okG (R.below hV)
  have c8 := R.c8
  have mc := R.mc
  have e1 : (c : Int) - (m : Int) ≤ 8 := by omega
  have e0 : 0 ≤ (c : Int) - (m : Int) := by omega
  clear F R
  unfold chA at F0 ZB
  go_enter Try.func18, Try.ntmps18
  go_wp2_with fail
  refine F0.out.mono ?_
  rintro e w2 ⟨rfl, hb⟩
  have B2 := Lib.hid hb
  have B3 := Lib.hid (hb.trans ((ZB.out w2).mono hb.size))
  clear hb
  go_wp2_with fail
  go_quiet ((go_at_call 40; exact Calls.quiet_of_same ((LG.out _ (below_drewN B3.out _)).mono fun _ _ h => ⟨h.1, h.2.symm⟩)))
  go_wp2
  go_ret
  exact ⟨rfl, below_drewN B3.out _⟩
/-- The functions of a place, as values. -/
abbrev putH (mp f : Nat) : Value := .func (.func 44) #[plc mp f] #[]
abbrev getH (mp f : Nat) : Value := .func (.func 46) #[plc mp f] #[]
theorem sendH_no {p : Value} {part ch er : Int} {w : World} (E : EndP p part ch true chZ er w) (h0 : er ≠ 0) (v : Value) : Calls Try.prog 22 #[p, .int .i64 part, .int .i64 ch, v] w fun e w' => e = .returned (.int .i64 er) ∧ Below w.heap.size w w' := by
  have E0 := Lib.hid (E w (Below.refl _ _))
  have ZB := Lib.hid fun W : World => below_step1 W (.cells chZ 93)
  have g0 : (er == 0) = false := by simpa using h0
  clear E
  unfold chZ at E0 ZB
  go_enter Try.func22, Try.ntmps22
  go_wp2_with fail
  refine E0.out.mono ?_
  rintro e w2 ⟨rfl, hb⟩
  have B2 := Lib.hid hb
  clear hb
  go_wp2
  go_ret
  exact ⟨rfl, B2.out.trans ((ZB.out w2).mono B2.out.size)⟩
theorem sendH_on {p : Value} {part ch : Int} {r mp f : Nat} {a b c d : Int} {w : World} (E : EndP p part ch true (chA r a b c d mp f) 0 w) (v : Value) (O : Int → World → Prop)
    (S : ∀ V, Below w.heap.size w V → Calls Try.prog 43 #[.pointer (some ⟨r, 0, none⟩), v, putH mp f] V fun e w' => ∃ k : Int, e = .returned (.int .i64 k) ∧ O k w') :
    Calls Try.prog 22 #[p, .int .i64 part, .int .i64 ch, v] w fun e w' => ∃ k : Int, e = .returned (.int .i64 k) ∧ O k w' := by
  have hmf : ∀ (fn : Fn) (first cap : Array Value) (w : World), (Instr.makeFunc fn first cap).run Try.prog w = .ok (.func fn first cap) w := fun _ _ _ _ => rfl
  have E0 := Lib.hid (E w (Below.refl _ _))
  have ZB := Lib.hid fun W : World => below_step1 W (.cells (chA r a b c d mp f) 93)
  have SS := Lib.hid S
  clear E S
  unfold chA at E0 ZB
  go_enter Try.func22, Try.ntmps22
  go_wp2_with fail
  refine E0.out.mono ?_
  rintro e w2 ⟨rfl, hb⟩
  have B3 := Lib.hid (hb.trans ((ZB.out w2).mono hb.size))
  clear hb
  go_wp2_with fail
  refine (SS.out _ B3.out).mono ?_
  rintro e w3 ⟨k, rfl, ho⟩
  have HO := Lib.hid ho
  clear ho
  go_wp2
  go_ret
  exact ⟨k, rfl, HO.out⟩
theorem recvH_no {p : Value} {part ch er : Int} {w : World} (E : EndP p part ch false chZ er w) (h0 : er ≠ 0) : Calls Try.prog 23 #[p, .int .i64 part, .int .i64 ch] w fun e w' => e = .returned (.tuple #[.slice none 0 0, .int .i64 er]) ∧ Below w.heap.size w w' := by
  have E0 := Lib.hid (E w (Below.refl _ _))
  have ZB := Lib.hid fun W : World => below_step1 W (.cells chZ 93)
  have g0 : (er == 0) = false := by simpa using h0
  clear E
  unfold chZ at E0 ZB
  go_enter Try.func23, Try.ntmps23
  go_wp2_with fail
  refine E0.out.mono ?_
  rintro e w2 ⟨rfl, hb⟩
  have B2 := Lib.hid hb
  clear hb
  go_wp2
  go_ret2
  exact ⟨rfl, B2.out.trans ((ZB.out w2).mono B2.out.size)⟩
theorem recvH_on {p : Value} {part ch : Int} {r mp f : Nat} {a b c d : Int} {w : World} (E : EndP p part ch false (chA r a b c d mp f) 0 w) (O : Value → Int → World → Prop)
    (S : ∀ V, Below w.heap.size w V → Calls Try.prog 45 #[.pointer (some ⟨r, 0, none⟩), getH mp f] V fun e w' => ∃ (u : Value) (k : Int), e = .returned (.tuple #[u, .int .i64 k]) ∧ O u k w') :
    Calls Try.prog 23 #[p, .int .i64 part, .int .i64 ch] w fun e w' => ∃ (u : Value) (k : Int), e = .returned (.tuple #[u, .int .i64 k]) ∧ O u k w' := by
  have hmf : ∀ (fn : Fn) (first cap : Array Value) (w : World), (Instr.makeFunc fn first cap).run Try.prog w = .ok (.func fn first cap) w := fun _ _ _ _ => rfl
  have E0 := Lib.hid (E w (Below.refl _ _))
  have ZB := Lib.hid fun W : World => below_step1 W (.cells (chA r a b c d mp f) 93)
  have SS := Lib.hid S
  clear E S
  unfold chA at E0 ZB
  go_enter Try.func23, Try.ntmps23
  go_wp2_with fail
  refine E0.out.mono ?_
  rintro e w2 ⟨rfl, hb⟩
  have B3 := Lib.hid (hb.trans ((ZB.out w2).mono hb.size))
  clear hb
  go_wp2_with fail
  refine (SS.out _ B3.out).mono ?_
  rintro e w3 ⟨u, k, rfl, ho⟩
  have HO := Lib.hid ho
  clear ho
  go_wp2
  go_ret2
  exact ⟨u, k, rfl, HO.out⟩
theorem nextH_no {p : Value} {part ch er : Int} {w : World} (E : EndP p part ch false chZ er w) (h0 : er ≠ 0) : Calls Try.prog 28 #[p, .int .i64 part, .int .i64 ch] w fun e w' => e = .returned (.tuple #[.int .i64 0, .int .i64 er]) ∧ Below w.heap.size w w' := by
  have E0 := Lib.hid (E w (Below.refl _ _))
  have ZB := Lib.hid fun W : World => below_step1 W (.cells chZ 93)
  have g0 : (er == 0) = false := by simpa using h0
  clear E
  unfold chZ at E0 ZB
  go_enter Try.func28, Try.ntmps28
  go_wp2_with fail
  refine E0.out.mono ?_
  rintro e w2 ⟨rfl, hb⟩
  have B2 := Lib.hid hb
  clear hb
  go_wp2
  go_ret2
  exact ⟨rfl, B2.out.trans ((ZB.out w2).mono B2.out.size)⟩
theorem nextH_empty {p : Value} {part ch : Int} {r mp f c' wi fs : Nat} {a b c d : Int} {w : World} (E : EndP p part ch false (chA r a b c d mp f) 0 w) (R : RngAt w r c' wi fs 0) : Calls Try.prog 28 #[p, .int .i64 part, .int .i64 ch] w fun e w' => e = .returned (.tuple #[.int .i64 0, .int .i64 12]) ∧ Below w.heap.size w w' := by
  have E0 := Lib.hid (E w (Below.refl _ _))
  have ZB := Lib.hid fun W : World => below_step1 W (.cells (chA r a b c d mp f) 93)
  have LG := Lib.hid fun V (hV : Below w.heap.size w V) => len_okG (R.below hV)
  clear E R
  unfold chA at E0 ZB
  go_enter Try.func28, Try.ntmps28
  go_wp2_with fail
  refine E0.out.mono ?_
  rintro e w2 ⟨rfl, hb⟩
  have B3 := Lib.hid (hb.trans ((ZB.out w2).mono hb.size))
  clear hb
  go_wp2_with fail
  refine (LG.out _ B3.out).mono ?_
  rintro e w3 ⟨rfl, rfl⟩
  go_wp2
  go_ret2
  exact ⟨rfl, B3.out⟩
theorem nextH_on {p : Value} {part ch : Int} {r mp f c' wi fs m : Nat} {a b c d k : Int} {w : World} (E : EndP p part ch false (chA r a b c d mp f) 0 w) (R : RngAt w r c' wi fs (m + 1))
    (S : ∀ V, Below w.heap.size w V → Calls Try.prog 55 #[.pointer (some ⟨r, 0, none⟩), getH mp f] V fun e w' => e = .returned (.int .i64 k) ∧ Below V.heap.size V w') :
    Calls Try.prog 28 #[p, .int .i64 part, .int .i64 ch] w fun e w' => e = .returned (.tuple #[.int .i64 k, .int .i64 0]) ∧ Below w.heap.size w w' := by
  have hmf : ∀ (fn : Fn) (first cap : Array Value) (w : World), (Instr.makeFunc fn first cap).run Try.prog w = .ok (.func fn first cap) w := fun _ _ _ _ => rfl
  have E0 := Lib.hid (E w (Below.refl _ _))
  have ZB := Lib.hid fun W : World => below_step1 W (.cells (chA r a b c d mp f) 93)
  have ZN := Lib.hid fun W : World => heap_alloc_new W (.cells (chA r a b c d mp f) 93)
  have LG := Lib.hid fun V (hV : Below w.heap.size w V) => len_okG (R.below hV)
  have SS := Lib.hid S
  have g0 : ((m : Int) + 1 == 0) = false := by simp; omega
  clear E S R
  unfold chA at E0 ZB ZN
  go_enter Try.func28, Try.ntmps28
  go_wp2_with fail
  refine E0.out.mono ?_
  rintro e w2 ⟨rfl, hb⟩
  have B3 := Lib.hid (hb.trans ((ZB.out w2).mono hb.size))
  clear hb
  go_wp2_with fail
  refine (LG.out _ B3.out).mono ?_
  rintro e w3 ⟨rfl, rfl⟩
  go_wp2_with fail
  refine (SS.out _ B3.out).mono ?_
  rintro e w4 ⟨rfl, hb⟩
  have B4 := Lib.hid (B3.out.trans (hb.mono B3.out.size))
  clear hb
  go_wp2
  go_ret2
  exact ⟨rfl, B4.out⟩
end Go.Proofs.Ytnapodeiigkebaa

/- Send, Recv, Next of channels in memory. Conditions: the channels lie as New laid them. -/
namespace Go.Proofs.Ytnapodeiigkebaa
open Go.RowKit
set_option maxRecDepth 100000

def updH {α : Type} (f : Nat → α) (i : Nat) (x : α) : Nat → α := fun j => if j = i then x else f j
theorem updH_same {α : Type} (f : Nat → α) (i : Nat) (x : α) : updH f i x i = x := if_pos rfl
theorem updH_far {α : Type} (f : Nat → α) {i j : Nat} (x : α) (h : j ≠ i) : updH f i x j = f j := if_neg h
theorem updH_self {α : Type} (f : Nat → α) (i : Nat) : updH f i (f i) = f := by
  funext j
  unfold updH
  split
  · rename_i h; rw [h]
  · rfl
theorem LieG.congr {c d out : Nat} {g h : Nat → Int} {Ls : List (List Int)} (hL : LieG c d out g Ls) (hc : 1 ≤ c) (e : ∀ j, j < wdsG c d → g j = h j) : LieG c d out h Ls := fun i hi => by
  obtain ⟨h1, h2, h3⟩ := hL i hi
  have hb := begG_lt (c := c) (d := d) (f := out) (i := i) hc
  exact ⟨h1, by rw [← e _ (by omega)]; exact h2, fun n hn => by rw [← e _ (by omega)]; exact h3 n hn⟩
theorem ChX.ringN (X : ChX) {i : Nat} (hi : i < X.H.length) : X.own (X.rb i) := Or.inr ⟨i, hi, rfl⟩
section
variable {w w' : World} {X : ChX} {ff : Nat → Nat} {L : List Int} {Q : Nat → List (List Int)} (A : ChAt w X ff L Q)
include A
theorem ChAt.notMem {i : Nat} (hi : i < X.H.length) : ¬ memB X.mp X.fb (X.rb i) := fun e => by
  have hb := (A.ring i hi).box
  rcases e with e | e
  · exact kind_ne hb A.mem.box (by simp only [kindOf]; decide) e
  · exact kind_ne hb A.mem.row (by simp only [kindOf]; decide) e
theorem ChAt.xbN : ¬ X.own X.xb := A.other A.box (by decide) (by decide) (by decide)
theorem ChAt.vN (g : Nat) (hg : X.v.ownBlock = some g) : ¬ X.own g := by
  obtain ⟨cs, h⟩ := own_block A.parts hg
  exact A.other h (by decide) (by decide) (by decide)
/-- What a call leaves that one channel's messages were changed by. -/
theorem ChAt.turn {i f' : Nat} {L' : List Int} {M : List (List Int)} (hi : i < X.H.length) (hm : MemSt w' X.mp X.fb X.n L') (hr : RngAt w' (X.rb i) (X.cp i) (X.wi i) f' M.length) (ho : Only w w' (fun j => j = X.rb i ∨ memB X.mp X.fb j)) (hw : ∀ k, 0 ≤ L'.getD k 0 ∧ L'.getD k 0 < 4294967296)
    (hout : ∀ k, k < X.fr i * 32 ∨ X.fr i * 32 + X.wds i ≤ k → L'.getD k 0 = L.getD k 0) (hl : LieG (X.cp i) (X.wi i) f' (fun j => L'.getD (X.fr i * 32 + j) 0) M) : ChAt w' X (updH ff i f') L' (updH Q i M) ∧ Only w w' X.own := by
  have hS : ∀ j, (j = X.rb i ∨ memB X.mp X.fb j) → X.own j := fun j e => e.elim (fun e => e ▸ X.ringN hi) Or.inl
  refine ⟨⟨ho.kept A.box (fun e => A.xbN (hS _ e)), ownsRow_only A.parts ho (fun g hg e => A.vN g hg (hS _ e)), A.few, hm, hw, fun j hj => ?_, fun j hj => ?_, A.rows, A.room, A.apart, A.nodup⟩, ho.mono hS⟩
  · by_cases e : j = i
    · subst e; rw [updH_same, updH_same]; exact hr
    · rw [updH_far _ _ e, updH_far _ _ e]
      exact (A.ring j hj).only ho (fun h => h.elim (fun h => e (A.nodup j i hj hi h)) (A.notMem hj))
  · by_cases e : j = i
    · subst e; rw [updH_same, updH_same]; exact hl
    · rw [updH_far _ _ e, updH_far _ _ e]
      refine (A.lie j hj).congr (A.ring j hj).c1 fun k hk => (hout _ ?_).symm
      have hk : k < X.wds j := hk
      rcases Nat.lt_or_gt_of_ne e with h | h
      · have := A.apart j i h hi; omega
      · have := A.apart i j h hj; omega
theorem ChAt.mix (i : Nat) : MixSt L X.mp X.fb X.n (X.fr i) (X.wds i) (fun j => L.getD (X.fr i * 32 + j) 0) w := ⟨by rw [mixL_self]; exact A.mem, fun j _ => A.wd _⟩
theorem ChAt.wdsN {i : Nat} (hi : i < X.H.length) : X.wds i ≤ 1000000 := by have := wdsG_le (A.ring i hi).c8 (A.ring i hi).d8; unfold ChX.wds; omega
theorem ChAt.endP {i : Nat} (hi : i < X.H.length) (part : Int) (send : Bool) : EndP (.pointer (some ⟨X.xb, 0, none⟩)) part (i : Int) send (if part = (if send then X.at_ i 0 else X.at_ i 1) then X.ch i else chZ) (if part = (if send then X.at_ i 0 else X.at_ i 1) then 0 else 8) w := endP_found (findP_ok A i hi) part send
theorem ChAt.endY {i : Nat} (hi : i < X.H.length) (part : Int) (send : Bool) (h : part = (if send then X.at_ i 0 else X.at_ i 1)) : EndP (.pointer (some ⟨X.xb, 0, none⟩)) part (i : Int) send (X.ch i) 0 w := by
  have := A.endP hi part send
  rwa [if_pos h, if_pos h] at this
theorem ChAt.endN {i : Nat} (hi : i < X.H.length) (part : Int) (send : Bool) (h : part ≠ (if send then X.at_ i 0 else X.at_ i 1)) : EndP (.pointer (some ⟨X.xb, 0, none⟩)) part (i : Int) send chZ 8 w := by
  have := A.endP hi part send
  rwa [if_neg h, if_neg h] at this
theorem ChAt.endB (ch : Int) (hc : ¬ (0 ≤ ch ∧ ch < X.H.length)) (part : Int) (send : Bool) : EndP (.pointer (some ⟨X.xb, 0, none⟩)) part ch send chZ 4 w := endP_err (findP_bad A ch hc) (by decide) part send
theorem ChAt.send_ok {i : Nat} (hi : i < X.H.length) (M : List Int) (v : Value) (hM : RowAt w v M) (hw : ∀ x ∈ M, 0 ≤ x ∧ x < 4294967296) (h1 : 1 ≤ M.length ∧ M.length ≤ X.wi i) (h2 : (Q i).length < X.cp i) :
    Calls Try.prog 22 #[.pointer (some ⟨X.xb, 0, none⟩), .int .i64 (X.at_ i 0), .int .i64 (i : Int), v] w fun e w' => e = .returned (.int .i64 0) ∧ ∃ L', ChAt w' X ff L' (updH Q i (Q i ++ [M])) ∧ Only w w' X.own ∧ ∀ k, k < X.fr i * 32 ∨ X.fr i * 32 + X.wds i ≤ k → L'.getD k 0 = L.getD k 0 := by
  refine (sendH_on (A.endY hi (X.at_ i 0) true rfl) v (fun k w' => k = 0 ∧ ∃ L', ChAt w' X ff L' (updH Q i (Q i ++ [M])) ∧ Only w w' X.own ∧ ∀ k, k < X.fr i * 32 ∨ X.fr i * 32 + X.wds i ≤ k → L'.getD k 0 = L.getD k 0) fun V hV => ?_).mono fun e w' ⟨k, he, hk, h⟩ => ⟨by rw [he, hk], h⟩
  have B := A.below hV
  refine (send_okG (MixSt.keep (L := L) (mp := X.mp) (fb := X.fb) (n := X.n) (fr := X.fr i) (N := X.wds i)) (MixSt.puts (A.room i hi)) (B.ring i hi) (B.notMem hi) h2 (Nat.le_refl _) (A.wdsN hi) (B.mix i) M h1 hw v (hM.below hV)).mono fun e w' ⟨he, hr, hs, ho⟩ => ⟨0, he, rfl, ?_⟩
  have hlen := hs.room
  have hrm := A.room i hi
  have c1 := (A.ring i hi).c1
  have hb := begG_lt (c := X.cp i) (d := X.wi i) (f := ff i) (i := (Q i).length) c1
  have key := B.turn (i := i) (f' := ff i) (M := Q i ++ [M]) hi hs.1 (by rw [List.length_append]; exact hr) ho (fun k => ?_) (fun k hk => mixL_out _ hk) ?_
  · refine ⟨_, by have := key.1; rwa [updH_self] at this, (Only.below hV).trans key.2, fun k hk => mixL_out _ hk⟩
  · by_cases hk : X.fr i * 32 ≤ k ∧ k < X.fr i * 32 + X.wds i
    · obtain ⟨j, rfl⟩ : ∃ j, k = X.fr i * 32 + j := ⟨k - X.fr i * 32, by omega⟩
      rw [mixL_at _ (by omega) (by rw [hlen]; exact hrm)]
      exact hs.2 j (by omega)
    · rw [mixL_out _ (by omega)]; exact A.wd k
  · refine ((A.lie i hi).snoc M h1 h2).congr c1 fun j hj => ?_
    exact (mixL_at _ hj (by rw [hlen]; exact hrm)).symm
theorem ChAt.send_bad {i : Nat} (hi : i < X.H.length) (a : Option Addr) (n cl : Nat) (hn : ¬ (1 ≤ n ∧ n ≤ X.wi i)) : Calls Try.prog 22 #[.pointer (some ⟨X.xb, 0, none⟩), .int .i64 (X.at_ i 0), .int .i64 (i : Int), .slice a n cl] w fun e w' => e = .returned (.int .i64 2) ∧ Below w.heap.size w w' :=
  (sendH_on (A.endY hi (X.at_ i 0) true rfl) _ (fun k w' => k = 2 ∧ Below w.heap.size w w') fun V hV => (send_badG ((A.below hV).ring i hi) a n cl _ _ _ (by omega)).mono fun e w' ⟨he, hb⟩ => ⟨2, he, rfl, hV.trans (hb.mono hV.size)⟩).mono fun e w' ⟨k, he, hk, h⟩ => ⟨by rw [he, hk], h⟩
theorem ChAt.send_full {i : Nat} (hi : i < X.H.length) (a : Option Addr) (n cl : Nat) (hn : 1 ≤ n ∧ n ≤ X.wi i) (hf : (Q i).length = X.cp i) : Calls Try.prog 22 #[.pointer (some ⟨X.xb, 0, none⟩), .int .i64 (X.at_ i 0), .int .i64 (i : Int), .slice a n cl] w fun e w' => e = .returned (.int .i64 12) ∧ Below w.heap.size w w' :=
  (sendH_on (A.endY hi (X.at_ i 0) true rfl) _ (fun k w' => k = 12 ∧ Below w.heap.size w w') fun V hV => (send_fullG (by have := (A.below hV).ring i hi; rwa [hf] at this) a n cl _ _ _ hn).mono fun e w' ⟨he, hb⟩ => ⟨12, he, rfl, hV.trans (hb.mono hV.size)⟩).mono fun e w' ⟨k, he, hk, h⟩ => ⟨by rw [he, hk], h⟩
theorem ChAt.recv_ok {i : Nat} (hi : i < X.H.length) (M : List Int) (R : List (List Int)) (hQ : Q i = M :: R) :
    Calls Try.prog 23 #[.pointer (some ⟨X.xb, 0, none⟩), .int .i64 (X.at_ i 1), .int .i64 (i : Int)] w fun e w' => ∃ g, e = .returned (.tuple #[.slice (some ⟨g, 0, none⟩) M.length M.length, .int .i64 0]) ∧ w.heap.size ≤ g ∧ MsgG w' g M ∧ ChAt w' X (updH ff i ((ff i + 1) % X.cp i)) L (updH Q i R) ∧ Only w w' X.own := by
  refine (recvH_on (A.endY hi (X.at_ i 1) false rfl) (fun u k w' => k = 0 ∧ ∃ g, u = .slice (some ⟨g, 0, none⟩) M.length M.length ∧ w.heap.size ≤ g ∧ MsgG w' g M ∧ ChAt w' X (updH ff i ((ff i + 1) % X.cp i)) L (updH Q i R) ∧ Only w w' X.own) fun V hV => ?_).mono fun e w' ⟨u, k, he, hk, g, hu, h⟩ => ⟨g, by rw [he, hk, hu], h⟩
  have B := A.below hV
  have hl := A.lie i hi
  rw [hQ] at hl
  obtain ⟨e1, e2⟩ := hl.head
  refine (recv_okG (f := ff i) (m := R.length) (MixSt.keep (L := L) (mp := X.mp) (fb := X.fb) (n := X.n) (fr := X.fr i) (N := X.wds i)) (MixSt.gets (A.room i hi)) (by have := B.ring i hi; rwa [hQ] at this) (B.notMem hi) (Nat.le_refl _) (A.wdsN hi) (B.mix i)).mono fun e w' ⟨g, he, hg, hm, hr, hs, ho⟩ => ?_
  rw [e1] at he hm
  rw [e2] at hm
  have hs1 := hs.1
  rw [mixL_self] at hs1
  have key := B.turn (i := i) (f' := (ff i + 1) % X.cp i) (M := R) hi hs1 hr (ho.mono fun j e => Or.inl e) A.wd (fun _ _ => rfl) (fun j hj => by
    have := hl.tail j hj
    rw [show begG (X.cp i) (X.wi i) ((ff i + 1) % X.cp i) j = begG (X.cp i) (X.wi i) (ff i + 1) j from begG_mod _ _ _ _]
    exact this)
  exact ⟨_, 0, he, rfl, g, rfl, Nat.le_trans hV.size hg, hm, key.1, (Only.below hV).trans key.2⟩
theorem ChAt.recv_empty {i : Nat} (hi : i < X.H.length) (hQ : Q i = []) : Calls Try.prog 23 #[.pointer (some ⟨X.xb, 0, none⟩), .int .i64 (X.at_ i 1), .int .i64 (i : Int)] w fun e w' => e = .returned (.tuple #[.slice none 0 0, .int .i64 12]) ∧ Below w.heap.size w w' :=
  (recvH_on (A.endY hi (X.at_ i 1) false rfl) (fun u k w' => u = .slice none 0 0 ∧ k = 12 ∧ Below w.heap.size w w') fun V hV => (recv_emptyG (by have := (A.below hV).ring i hi; rwa [hQ] at this) _ _ _).mono fun e w' ⟨he, hb⟩ => ⟨_, 12, he, rfl, rfl, hV.trans (hb.mono hV.size)⟩).mono fun e w' ⟨u, k, he, hu, hk, h⟩ => ⟨by rw [he, hu, hk], h⟩
theorem ChAt.next_ok {i : Nat} (hi : i < X.H.length) (M : List Int) (R : List (List Int)) (hQ : Q i = M :: R) : Calls Try.prog 28 #[.pointer (some ⟨X.xb, 0, none⟩), .int .i64 (X.at_ i 1), .int .i64 (i : Int)] w fun e w' => e = .returned (.tuple #[.int .i64 (M.length : Int), .int .i64 0]) ∧ Below w.heap.size w w' := by
  have hl := A.lie i hi
  rw [hQ] at hl
  obtain ⟨e1, -⟩ := hl.head
  have hr := A.ring i hi
  rw [hQ] at hr
  refine nextH_on (A.endY hi (X.at_ i 1) false rfl) (m := R.length) hr fun V hV => ?_
  have B := A.below hV
  have := next_okG (MixSt.keep (L := L) (mp := X.mp) (fb := X.fb) (n := X.n) (fr := X.fr i) (N := X.wds i)) (MixSt.gets (A.room i hi)) (hr.below hV) (Nat.le_refl _) (A.wdsN hi) (B.mix i)
  rwa [e1] at this
theorem ChAt.next_empty {i : Nat} (hi : i < X.H.length) (hQ : Q i = []) : Calls Try.prog 28 #[.pointer (some ⟨X.xb, 0, none⟩), .int .i64 (X.at_ i 1), .int .i64 (i : Int)] w fun e w' => e = .returned (.tuple #[.int .i64 0, .int .i64 12]) ∧ Below w.heap.size w w' :=
  nextH_empty (A.endY hi (X.at_ i 1) false rfl) (by have := A.ring i hi; rwa [hQ] at this)
theorem ChAt.room_ok {i : Nat} (hi : i < X.H.length) : Calls Try.prog 18 #[.pointer (some ⟨X.xb, 0, none⟩), .int .i64 (i : Int)] w fun e w' => e = .returned (.int .i64 ((X.cp i : Int) - ((Q i).length : Int))) ∧ Below w.heap.size w w' := by
  have := findP_ok A i hi
  unfold ChX.ch at this
  rw [(A.rows i hi).1] at this
  exact roomH_ok this (A.ring i hi)
end
end Go.Proofs.Ytnapodeiigkebaa
