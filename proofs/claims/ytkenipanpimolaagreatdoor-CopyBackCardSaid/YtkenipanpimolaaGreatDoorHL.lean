/- Texts of mine, joined: S3 S4. What each says and under which conditions stands at its head, below. -/
import Derived.Test.YtkenipanpimolaaGreatDoorHK
import Derived.Test.YtkenipanpimolaaGreatDoorHC
/- Spaces of processes as functions of pages, frames that they share, and what their containers use: what always holds, and what a page that comes, goes, is shared or copied does to it. Nothing of a program. -/
namespace Go.Proofs.YtkenipanpimolaaGreatDoor
set_option maxRecDepth 100000

/-- Sums over the numbers of processes. -/
def sum8 (f : Int → Nat) : Nat := f 1 + f 2 + f 3 + f 4 + f 5 + f 6 + f 7 + f 8
theorem pid8 {i : Int} (h : 1 ≤ i ∧ i ≤ 8) : i = 1 ∨ i = 2 ∨ i = 3 ∨ i = 4 ∨ i = 5 ∨ i = 6 ∨ i = 7 ∨ i = 8 := by omega
theorem sum8_upd {f g : Int → Nat} {i : Int} (hi : 1 ≤ i ∧ i ≤ 8) (h : ∀ j, j ≠ i → g j = f j) : sum8 g + f i = sum8 f + g i := by
  unfold sum8
  rcases pid8 hi with rfl | rfl | rfl | rfl | rfl | rfl | rfl | rfl
  · rw [h 2 (by decide), h 3 (by decide), h 4 (by decide), h 5 (by decide), h 6 (by decide), h 7 (by decide), h 8 (by decide)]; omega
  · rw [h 1 (by decide), h 3 (by decide), h 4 (by decide), h 5 (by decide), h 6 (by decide), h 7 (by decide), h 8 (by decide)]; omega
  · rw [h 1 (by decide), h 2 (by decide), h 4 (by decide), h 5 (by decide), h 6 (by decide), h 7 (by decide), h 8 (by decide)]; omega
  · rw [h 1 (by decide), h 2 (by decide), h 3 (by decide), h 5 (by decide), h 6 (by decide), h 7 (by decide), h 8 (by decide)]; omega
  · rw [h 1 (by decide), h 2 (by decide), h 3 (by decide), h 4 (by decide), h 6 (by decide), h 7 (by decide), h 8 (by decide)]; omega
  · rw [h 1 (by decide), h 2 (by decide), h 3 (by decide), h 4 (by decide), h 5 (by decide), h 7 (by decide), h 8 (by decide)]; omega
  · rw [h 1 (by decide), h 2 (by decide), h 3 (by decide), h 4 (by decide), h 5 (by decide), h 6 (by decide), h 8 (by decide)]; omega
  · rw [h 1 (by decide), h 2 (by decide), h 3 (by decide), h 4 (by decide), h 5 (by decide), h 6 (by decide), h 7 (by decide)]; omega
theorem sum8_congr {f g : Int → Nat} (h : ∀ j, 1 ≤ j ∧ j ≤ 8 → g j = f j) : sum8 g = sum8 f := by
  unfold sum8
  rw [h 1 (by decide), h 2 (by decide), h 3 (by decide), h 4 (by decide), h 5 (by decide), h 6 (by decide), h 7 (by decide), h 8 (by decide)]
theorem sum8_add (f g : Int → Nat) : sum8 (fun i => f i + g i) = sum8 f + sum8 g := by simp only [sum8]; omega
theorem sum8_ge (f : Int → Nat) {i : Int} (hi : 1 ≤ i ∧ i ≤ 8) : f i ≤ sum8 f := by
  unfold sum8
  rcases pid8 hi with rfl | rfl | rfl | rfl | rfl | rfl | rfl | rfl <;> omega
/-- How many numbers below one are so. -/
def cntR (b : Nat → Bool) (k : Nat) : Nat := ((List.range k).filter b).length
theorem cntR_succ (b : Nat → Bool) (k : Nat) : cntR b (k + 1) = cntR b k + (if b k = true then 1 else 0) := by
  unfold cntR
  rw [List.range_succ, List.filter_append, List.length_append]
  cases h : b k <;> simp [h]
theorem cntR_congr {b d : Nat → Bool} : ∀ {k : Nat}, (∀ y, y < k → d y = b y) → cntR d k = cntR b k
  | 0, _ => rfl
  | k + 1, h => by rw [cntR_succ, cntR_succ, cntR_congr (k := k) (fun y hy => h y (by omega)), h k (by omega)]
theorem cntR_upd {b d : Nat → Bool} {x : Nat} (h : ∀ y, y ≠ x → d y = b y) : ∀ {k : Nat}, x < k → cntR d k + (if b x = true then 1 else 0) = cntR b k + (if d x = true then 1 else 0)
  | k + 1, hx => by
    rw [cntR_succ, cntR_succ]
    by_cases e : x = k
    · subst e; rw [cntR_congr (b := b) (fun y hy => h y (by omega))]; omega
    · rw [h k (by omega)]
      have := cntR_upd h (k := k) (by omega)
      omega
theorem cntR_zero {b : Nat → Bool} : ∀ {k : Nat}, (∀ y, y < k → b y = false) → cntR b k = 0
  | 0, _ => rfl
  | k + 1, h => by rw [cntR_succ, cntR_zero (k := k) (fun y hy => h y (by omega)), h k (by omega)]; rfl
/-- What a space is charged. -/
def pgsF (F : Sp) : Nat := cntR (fun p => (F p).1) 1024
def costF (F : Sp) : Nat := tabF F + pgsF F
def costD : Option Sp → Nat
  | none => 0
  | some F => costF F
def noF : Sp := fun _ => z0
theorem hasB_none {F : Sp} {i : Nat} (h : ∀ j, j < 32 → (F (32 * i + j)).1 = false) : hasB F i = false := by
  cases hh : hasB F i with
  | false => rfl
  | true =>
    obtain ⟨j, hj, hp⟩ := (hasB_iff _ _).1 hh
    rw [h j hj] at hp; cases hp
theorem costF_no : costF noF = 1 := by
  unfold costF tabF pgsF
  rw [show ((List.range 32).filter (hasB noF)).length = cntR (hasB noF) 32 from rfl, cntR_zero (b := hasB noF) (fun y _ => hasB_none fun _ _ => rfl), cntR_zero (b := fun p => (noF p).1) (fun y _ => rfl)]
theorem costF_ge (F : Sp) : 1 ≤ costF F := by unfold costF tabF; omega
def newT (F : Sp) (p : Nat) : Nat := if hasB F (p / 32) = true then 0 else 1
theorem costF_map {F : Sp} {p : Nat} {e : Ent} (hp : p < 1024) (hF : (F p).1 = false) (he : e.1 = true) : costF (updF F p e) = costF F + 1 + newT F p := by
  have h1 := cntR_upd (b := hasB F) (d := hasB (updF F p e)) (x := p / 32) (fun y hy => hasB_far F p e y hy) (k := 32) (by omega)
  have h2 := cntR_upd (b := fun q => (F q).1) (d := fun q => (updF F p e q).1) (x := p) (fun y hy => by rw [updF_other _ _ _ _ hy]) (k := 1024) hp
  rw [if_pos (hasB_put F p e he)] at h1
  simp only [updF_same, hF, he, if_true] at h2
  unfold costF tabF pgsF newT
  rw [show ((List.range 32).filter (hasB F)).length = cntR (hasB F) 32 from rfl, show ((List.range 32).filter (hasB (updF F p e))).length = cntR (hasB (updF F p e)) 32 from rfl]
  simp only [Bool.false_eq_true, if_false] at h2
  split at h1
  · rename_i hh; rw [if_pos hh]; omega
  · rename_i hh; rw [if_neg hh]; omega
theorem updF_updF (F : Sp) (p : Nat) (e d : Ent) : updF (updF F p e) p d = updF F p d := by
  funext q; unfold updF; split <;> rfl
theorem updF_self (F : Sp) (p : Nat) : updF F p (F p) = F := by
  funext q; unfold updF; split
  · rename_i h; rw [h]
  · rfl
theorem costF_unmap {F : Sp} {p : Nat} (hp : p < 1024) (hF : (F p).1 = true) : costF F = costF (updF F p z0) + 1 + newT (updF F p z0) p := by
  have := costF_map (F := updF F p z0) (e := F p) hp (by rw [updF_same]; rfl) hF
  rwa [updF_updF, updF_self] at this
theorem costF_set {F : Sp} {p : Nat} {e : Ent} (hp : p < 1024) (hF : (F p).1 = true) (he : e.1 = true) : costF (updF F p e) = costF F := by
  have h1 := costF_unmap hp hF
  have h2 := costF_map (F := updF F p z0) (e := e) hp (by rw [updF_same]; rfl) he
  rw [updF_updF] at h2
  omega

/-- Does a space hold a frame? -/
def hasF (F : Sp) (f : Nat) : Bool := (List.range 1024).any fun p => (F p).1 && decide ((F p).2.2.2 = (f : Int))
theorem hasF_iff (F : Sp) (f : Nat) : hasF F f = true ↔ ∃ p, p < 1024 ∧ (F p).1 = true ∧ (F p).2.2.2 = (f : Int) := by
  simp [hasF]
def hasO : Option Sp → Nat → Bool
  | none, _ => false
  | some F, f => hasF F f
def b1 (b : Bool) : Nat := if b = true then 1 else 0
def exQ (Q : Nat → Nat) : Nat → Nat
  | 0 => 0
  | k + 1 => exQ Q k + (Q k - 1)
theorem exQ_congr {Q R : Nat → Nat} : ∀ {k : Nat}, (∀ y, y < k → R y = Q y) → exQ R k = exQ Q k
  | 0, _ => rfl
  | k + 1, h => by rw [exQ, exQ, exQ_congr (k := k) (fun y hy => h y (by omega)), h k (by omega)]
theorem exQ_upd (Q : Nat → Nat) (x v : Nat) : ∀ {k : Nat}, x < k → exQ (upd Q x v) k + (Q x - 1) = exQ Q k + (v - 1)
  | k + 1, hx => by
    rw [exQ, exQ]
    by_cases e : x = k
    · subst e; rw [exQ_congr (Q := Q) (fun y hy => upd_other _ _ _ _ (by omega)), upd_same]; omega
    · rw [upd_other _ _ _ _ (fun e2 => e e2.symm)]
      have := exQ_upd Q x v (k := k) (by omega)
      omega
theorem exQ_zero {Q : Nat → Nat} : ∀ {k : Nat}, (∀ y, y < k → Q y = 0) → exQ Q k = 0
  | 0, _ => rfl
  | k + 1, h => by rw [exQ, exQ_zero (k := k) (fun y hy => h y (by omega)), h k (by omega)]
/-- What a container uses. -/
def usedN (L : List Nd) (i : Int) : Nat := match atN i L with
  | none => 0
  | some n => n.2.2.2.toNat
theorem sum8_used : ∀ {L : List Nd}, L.Pairwise (fun a b => a.1 < b.1) → (∀ n ∈ L, okN n) → (sum8 (usedN L) : Int) = sumF (fun n => n.2.2.2) L
  | [], _, _ => rfl
  | n :: r, hp, ho => by
    obtain ⟨h1, h2⟩ := List.pairwise_cons.1 hp
    have ih := sum8_used h2 (fun x hx => ho x (List.mem_cons_of_mem _ hx))
    have hn := ho n (by simp)
    have hno : atN n.1 r = none := atN_none.2 fun x hx => by have := h1 x hx; omega
    have hu := sum8_upd (f := usedN r) (g := usedN (n :: r)) (i := n.1) hn.1 (fun j hj => by unfold usedN; rw [atN, if_neg (fun e => hj e.symm)])
    have e1 : usedN r n.1 = 0 := by unfold usedN; rw [hno]
    have e2 : (usedN (n :: r) n.1 : Int) = n.2.2.2 := by
      unfold usedN; rw [atN, if_pos rfl]; simp only; omega
    rw [sumF, ← ih]
    omega
theorem tree_room {q : Int} {L : List Nd} (h : Tree q L) (i : Int) : (sum8 (usedN L) : Int) + leftL L i ≤ q := by
  rw [sum8_used h.good.up h.good.ok, ← h.total, sumF_add]
  have hnn : ∀ n ∈ L, 0 ≤ leftNU L n := h.left
  have key : ∀ (K : List Nd), (∀ n ∈ K, 0 ≤ leftNU L n) → 0 ≤ sumF (leftNU L) K ∧ ∀ n ∈ K, leftNU L n ≤ sumF (leftNU L) K := by
    intro K
    induction K with
    | nil => intro _; exact ⟨by simp [sumF], by simp⟩
    | cons x r ih =>
      intro hk
      obtain ⟨a, b⟩ := ih (fun n hn => hk n (List.mem_cons_of_mem _ hn))
      have := hk x (by simp)
      rw [sumF]
      refine ⟨by omega, fun n hn => ?_⟩
      rcases List.mem_cons.1 hn with rfl | hn
      · omega
      · have := b n hn; omega
  have hk := key L hnn
  unfold leftL
  cases e : atN i L with
  | none => simp only [leftO]; omega
  | some n =>
    have := hk.2 n (atN_some e).1
    simp only [leftO]
    omega
theorem used_open {L : List Nd} (id up q i : Int) : usedN (openL L id up q) i = usedN L i := by
  unfold openL
  split
  · rename_i h0
    obtain ⟨_, _, hno, _⟩ := openEU_zero.1 h0
    unfold usedN
    rw [atN_insN (atN_none.1 hno)]
    by_cases e : i = id
    · rw [if_pos e, e, hno]; rfl
    · rw [if_neg e]
  · rfl
theorem used_charge {L : List Nd} {id : Int} {k : Nat} (h : chargeEU L id (k : Int) = 0) (hg : GoodU L) (i : Int) : usedN (chargeL L id (k : Int)) i = usedN L i + (if i = id then k else 0) := by
  unfold chargeL
  rw [if_pos h]
  obtain ⟨_, ⟨x, hx⟩, _⟩ := chargeEU_zero.1 h
  unfold usedN
  rw [atN_map (setU_id id _)]
  have hok := hg.ok x (atN_some hx).1
  by_cases e : i = id
  · subst e
    rw [hx, if_pos rfl]
    simp only [Option.map_some, setU, (atN_some hx).2, if_true]
    unfold okN at hok
    omega
  · rw [if_neg e]
    cases ha : atN i L with
    | none => rfl
    | some y =>
      have := (atN_some ha).2
      simp only [Option.map_some, setU, this, if_neg e]; rfl
/-- A space's function, set. -/
def setD (D : Int → Option Sp) (i : Int) (v : Option Sp) : Int → Option Sp := fun j => if j = i then v else D j
theorem setD_same (D : Int → Option Sp) (i : Int) (v : Option Sp) : setD D i v i = v := by simp [setD]
theorem setD_other (D : Int → Option Sp) (i : Int) (v : Option Sp) {j : Int} (h : j ≠ i) : setD D i v j = D j := by simp [setD, h]
def addO (ow : Int → Nat) (i : Int) (v : Nat) : Int → Nat := fun j => if j = i then ow j + v else ow j
def subO (ow : Int → Nat) (i : Int) (v : Nat) : Int → Nat := fun j => if j = i then ow j - v else ow j
/-- What always holds. -/
structure J (n q c : Nat) (D : Int → Option Sp) (Q : Nat → Nat) (Lb : List Nd) (ow : Int → Nat) (P : Int → Nat → Option Bool) : Prop where
  pid : ∀ i F, D i = some F → 1 ≤ i ∧ i ≤ 8
  fit : ∀ i F p, D i = some F → F p = z0 ∨ fitsE n (F p)
  one : ∀ i j F K p r, D i = some F → D j = some K → p < 1024 → r < 1024 → (F p).1 = true → (K r).1 = true → (F p).2.2.2 = (K r).2.2.2 → p = r
  cnt : ∀ f : Nat, Q f = sum8 fun i => b1 (hasO (D i) f)
  perm : ∀ i F p, D i = some F → p < 1024 → (F p).1 = true → P i p = some ((F p).2.1 || (F p).2.2.1)
  excl : ∀ i F p, D i = some F → p < 1024 → (F p).1 = true → (F p).2.1 = true → Q (F p).2.2.2.toNat = 1
  bud : ∀ i, usedN Lb i = costD (D i) + ow i
  tree : Tree (q : Int) Lb
  sum : q + exQ Q 1024 = c + sum8 fun i => costD (D i)
  low : n ≤ 1024
theorem J.room {n q c : Nat} {D : Int → Option Sp} {Q : Nat → Nat} {Lb : List Nd} {ow : Int → Nat} {P : Int → Nat → Option Bool} (h : J n q c D Q Lb ow P) (i : Int) : (sum8 ow : Int) + leftL Lb i ≤ c := by
  have h1 := tree_room h.tree i
  have h2 : sum8 (usedN Lb) = sum8 (fun i => costD (D i)) + sum8 ow := by rw [← sum8_add]; exact sum8_congr fun j _ => h.bud j
  have h3 := h.sum
  omega
theorem J.out {n q c : Nat} {D : Int → Option Sp} {Q : Nat → Nat} {Lb : List Nd} {ow : Int → Nat} {P : Int → Nat → Option Bool} (h : J n q c D Q Lb ow P) {i : Int} (hi : ¬ (1 ≤ i ∧ i ≤ 8)) : ow i = 0 := by
  have h1 := h.bud i
  have h2 : atN i Lb = none := atN_none.2 fun x hx e => hi (by rw [← e]; exact (h.tree.good.ok x hx).1)
  unfold usedN at h1
  rw [h2] at h1
  simp only at h1
  omega
theorem J.ow1 {n q c : Nat} {D : Int → Option Sp} {Q : Nat → Nat} {Lb : List Nd} {ow : Int → Nat} {P : Int → Nat → Option Bool} (h : J n q c D Q Lb ow P) (i : Int) : ow i ≤ c := by
  by_cases hi : 1 ≤ i ∧ i ≤ 8
  · have h1 := h.room i
    have h2 := sum8_ge ow hi
    have h3 := h.tree.leftL i
    omega
  · rw [h.out hi]; omega
/-- Who holds a frame. -/
theorem J.held {n q c : Nat} {D : Int → Option Sp} {Q : Nat → Nat} {Lb : List Nd} {ow : Int → Nat} {P : Int → Nat → Option Bool} (h : J n q c D Q Lb ow P) {i : Int} {F : Sp} {p : Nat} (hi : D i = some F) (hp : p < 1024) (hF : (F p).1 = true) : ∃ f : Nat, (F p).2.2.2 = (f : Int) ∧ f < n ∧ Q f ≠ 0 ∧ fitsE n (F p) := by
  rcases h.fit i F p hi with e | e
  · rw [e] at hF; cases hF
  · obtain ⟨h1, h2, h3⟩ := e
    have h4 := (okE_low h3).1
    refine ⟨(F p).2.2.2.toNat, by omega, by omega, ?_, h1, h2, h3⟩
    rw [h.cnt]
    have := sum8_ge (fun i => b1 (hasO (D i) (F p).2.2.2.toNat)) (h.pid i F hi)
    have h5 : hasO (D i) (F p).2.2.2.toNat = true := by
      rw [hi]; exact (hasF_iff _ _).2 ⟨p, hp, hF, by omega⟩
    simp only [h5] at this
    have e1 : b1 true = 1 := rfl
    omega
theorem J.most {n q c : Nat} {D : Int → Option Sp} {Q : Nat → Nat} {Lb : List Nd} {ow : Int → Nat} {P : Int → Nat → Option Bool} (h : J n q c D Q Lb ow P) (f : Nat) : Q f ≤ 8 := by
  rw [h.cnt]
  have : ∀ b : Bool, b1 b ≤ 1 := by intro b; cases b <;> simp [b1]
  simp only [sum8]
  have := this (hasO (D 1) f); have := ‹∀ b : Bool, b1 b ≤ 1› (hasO (D 2) f); have := ‹∀ b : Bool, b1 b ≤ 1› (hasO (D 3) f); have := ‹∀ b : Bool, b1 b ≤ 1› (hasO (D 4) f); have := ‹∀ b : Bool, b1 b ≤ 1› (hasO (D 5) f); have := ‹∀ b : Bool, b1 b ≤ 1› (hasO (D 6) f); have := ‹∀ b : Bool, b1 b ≤ 1› (hasO (D 7) f); have := ‹∀ b : Bool, b1 b ≤ 1› (hasO (D 8) f)
  omega
theorem hasF_upd_other {F : Sp} {p : Nat} {e : Ent} {f : Nat} (h1 : ¬ ((F p).1 = true ∧ (F p).2.2.2 = (f : Int))) (h2 : ¬ (e.1 = true ∧ e.2.2.2 = (f : Int))) : hasF (updF F p e) f = hasF F f := by
  rw [Bool.eq_iff_iff, hasF_iff, hasF_iff]
  constructor
  · rintro ⟨r, hr, a, b⟩
    by_cases er : r = p
    · subst er; rw [updF_same] at a b; exact absurd ⟨a, b⟩ h2
    · rw [updF_other _ _ _ _ er] at a b; exact ⟨r, hr, a, b⟩
  · rintro ⟨r, hr, a, b⟩
    by_cases er : r = p
    · subst er; exact absurd ⟨a, b⟩ h1
    · exact ⟨r, hr, by rw [updF_other _ _ _ _ er]; exact a, by rw [updF_other _ _ _ _ er]; exact b⟩
theorem hasF_upd_on {F : Sp} {p : Nat} {e : Ent} {f : Nat} (hp : p < 1024) (h2 : e.1 = true ∧ e.2.2.2 = (f : Int)) : hasF (updF F p e) f = true :=
  (hasF_iff _ _).2 ⟨p, hp, by rw [updF_same]; exact h2.1, by rw [updF_same]; exact h2.2⟩
section
variable {n q c : Nat} {D : Int → Option Sp} {Q : Nat → Nat} {Lb : List Nd} {ow : Int → Nat} {P : Int → Nat → Option Bool}
/-- A frame is held once more, or less, where one space holds it newly, or no more. -/
theorem cnt_set (h : ∀ f : Nat, Q f = sum8 fun i => b1 (hasO (D i) f)) {i : Int} (hi : 1 ≤ i ∧ i ≤ 8) (v : Option Sp) (f : Nat) : (sum8 fun j => b1 (hasO (setD D i v j) f)) + b1 (hasO (D i) f) = Q f + b1 (hasO v f) := by
  have := sum8_upd (f := fun j => b1 (hasO (D j) f)) (g := fun j => b1 (hasO (setD D i v j) f)) hi (fun j hj => by simp only [setD_other D i v hj])
  simp only [setD_same] at this
  rw [h f]
  omega
theorem sum_set {i : Int} (hi : 1 ≤ i ∧ i ≤ 8) (v : Option Sp) : (sum8 fun j => costD (setD D i v j)) + costD (D i) = (sum8 fun j => costD (D j)) + costD v := by
  have := sum8_upd (f := fun j => costD (D j)) (g := fun j => costD (setD D i v j)) hi (fun j hj => by simp only [setD_other D i v hj])
  simp only [setD_same] at this
  omega
theorem J.pages {P' : Int → Nat → Option Bool} (h : J n q c D Q Lb ow P) (hP : ∀ i F p, D i = some F → p < 1024 → (F p).1 = true → P' i p = P i p) : J n q c D Q Lb ow P' :=
  ⟨h.pid, h.fit, h.one, h.cnt, fun i F p hi hp hF => by rw [hP i F p hi hp hF]; exact h.perm i F p hi hp hF, h.excl, h.bud, h.tree, h.sum, h.low⟩
theorem J.charge (h : J n q c D Q Lb ow P) {i : Int} {k : Nat} (h0 : chargeEU Lb i (k : Int) = 0) : J n q c D Q (chargeL Lb i (k : Int)) (addO ow i k) P :=
  ⟨h.pid, h.fit, h.one, h.cnt, h.perm, h.excl, fun j => by
    rw [used_charge h0 h.tree.good, h.bud]
    unfold addO
    split <;> omega, h.tree.charge i k, h.sum, h.low⟩
theorem J.carve (h : J n q c D Q Lb ow P) (id up k : Int) : J n q c D Q (openL Lb id up k) ow P :=
  ⟨h.pid, h.fit, h.one, h.cnt, h.perm, h.excl, fun j => by rw [used_open]; exact h.bud j, h.tree.open id up k, h.sum, h.low⟩
/-- A space that is there has a container. -/
theorem J.there (h : J n q c D Q Lb ow P) {i : Int} {F : Sp} (hi : D i = some F) : atN i Lb ≠ none := fun e => by
  have := h.bud i
  unfold usedN at this
  rw [e, hi] at this
  simp only [costD] at this
  have := costF_ge F
  omega
/-- A page comes, of a frame that nobody held. -/
theorem J.touch (h : J n q c D Q Lb ow P) {i : Int} {F : Sp} (hi : D i = some F) {p x : Nat} (hp : p < 1024) (hF : (F p).1 = false) (hx : Q x = 0) (hxn : x < n) {w k : Bool} (hwk : w = false ∨ k = false) (hP : P i p = some (w || k)) (ho : 1 + newT F p ≤ ow i) :
    J n q (c - 1 - newT F p) (setD D i (some (updF F p (true, w, k, (x : Int))))) (upd Q x 1) Lb (subO ow i (1 + newT F p)) P := by
  have hid := h.pid i F hi
  have hc := h.ow1 i
  have hlow := h.low
  have hex := exQ_upd Q x 1 (k := 1024) (by omega)
  have hs := sum_set (D := D) hid (some (updF F p (true, w, k, (x : Int))))
  have hcost : costD (some (updF F p (true, w, k, (x : Int)))) = costD (D i) + 1 + newT F p := by rw [hi]; exact costF_map hp hF rfl
  have hsum := h.sum
  have hok : okE true w k (x : Int) = true := by
    unfold okE
    rcases hwk with rfl | rfl <;> simp <;> omega
  have hnew : ∀ j K r, D j = some K → r < 1024 → (K r).1 = true → (K r).2.2.2 ≠ (x : Int) := fun j K r hj hr hK e => by
    obtain ⟨f, h1, _, h3, _⟩ := h.held hj hr hK
    have : f = x := by omega
    rw [this] at h3; exact h3 hx
  have hcase : ∀ {j : Int} {K : Sp}, setD D i (some (updF F p (true, w, k, (x : Int)))) j = some K → (j = i ∧ K = updF F p (true, w, k, (x : Int))) ∨ (j ≠ i ∧ D j = some K) := fun {j K} hj => by
    by_cases e : j = i
    · subst e; rw [setD_same] at hj; exact Or.inl ⟨rfl, (Option.some.inj hj).symm⟩
    · rw [setD_other _ _ _ e] at hj; exact Or.inr ⟨e, hj⟩
  have hpg : ∀ {j : Int} {K : Sp} {r : Nat}, setD D i (some (updF F p (true, w, k, (x : Int)))) j = some K → r < 1024 → (K r).1 = true → (j = i ∧ r = p ∧ K r = (true, w, k, (x : Int))) ∨ (∃ K', D j = some K' ∧ K r = K' r ∧ (K' r).1 = true) := fun {j K r} hj hr hK => by
    rcases hcase hj with ⟨rfl, rfl⟩ | ⟨_, hj⟩
    · by_cases e : r = p
      · subst e; exact Or.inl ⟨rfl, rfl, updF_same _ _ _⟩
      · rw [updF_other _ _ _ _ e] at hK ⊢; exact Or.inr ⟨F, hi, rfl, hK⟩
    · exact Or.inr ⟨K, hj, rfl, hK⟩
  refine ⟨fun j K hj => ?_, fun j K r hj => ?_, fun j l K M r s hj hl hr hs' hK hM he => ?_, fun f => ?_, fun j K r hj hr hK => ?_, fun j K r hj hr hK hw => ?_, fun j => ?_, h.tree, ?_, h.low⟩
  · rcases hcase hj with ⟨rfl, _⟩ | ⟨_, hj⟩
    · exact hid
    · exact h.pid j K hj
  · rcases hcase hj with ⟨rfl, rfl⟩ | ⟨_, hj⟩
    · by_cases e : r = p
      · subst e; rw [updF_same]; exact Or.inr ⟨rfl, by simp only; omega, hok⟩
      · rw [updF_other _ _ _ _ e]; exact h.fit j F r hi
    · exact h.fit j K r hj
  · rcases hpg hj hr hK with ⟨_, e1, e2⟩ | ⟨K', a1, a2, a3⟩
    · rcases hpg hl hs' hM with ⟨_, e3, _⟩ | ⟨M', b1', b2, b3⟩
      · omega
      · rw [e2, b2] at he
        exact absurd he.symm (hnew l M' s b1' hs' b3)
    · rcases hpg hl hs' hM with ⟨_, e3, e4⟩ | ⟨M', b1', b2, b3⟩
      · rw [a2, e4] at he
        exact absurd he (hnew j K' r a1 hr a3)
      · rw [a2, b2] at he
        exact h.one j l K' M' r s a1 b1' hr hs' a3 b3 he
  · have hc1 := cnt_set h.cnt hid (some (updF F p (true, w, k, (x : Int)))) f
    by_cases e : f = x
    · subst e
      have h1 : hasO (D i) f = false := by
        rw [hi]
        cases hh : hasF F f with
        | false => exact hh
        | true =>
          obtain ⟨r, hr, a, b⟩ := (hasF_iff _ _).1 hh
          exact absurd b (hnew i F r hi hr a)
      have h2 : hasO (some (updF F p (true, w, k, (f : Int)))) f = true := hasF_upd_on hp ⟨rfl, rfl⟩
      rw [h1, h2, hx] at hc1
      rw [upd_same]
      simp only [b1, Bool.false_eq_true, if_false, if_true] at hc1 ⊢
      omega
    · have h1 : hasO (some (updF F p (true, w, k, (x : Int)))) f = hasO (D i) f := by
        rw [hi]
        exact hasF_upd_other (by rw [hF]; simp) (by simp only [true_and]; omega)
      rw [h1] at hc1
      rw [upd_other _ _ _ _ e]
      omega
  · rcases hpg hj hr hK with ⟨rfl, rfl, e2⟩ | ⟨K', a1, a2, a3⟩
    · rw [e2]; exact hP
    · rw [a2]; exact h.perm j K' r a1 hr a3
  · rcases hpg hj hr hK with ⟨rfl, rfl, e2⟩ | ⟨K', a1, a2, a3⟩
    · rw [e2, Int.toNat_natCast, upd_same]
    · rw [a2] at hw ⊢
      have h3 := hnew j K' r a1 hr a3
      obtain ⟨f, hf, _, _, _⟩ := h.held a1 hr a3
      rw [upd_other _ _ _ _ (by omega)]
      exact h.excl j K' r a1 hr a3 hw
  · rw [h.bud j]
    unfold subO
    by_cases e : j = i
    · subst e; rw [setD_same, if_pos rfl, hcost]; omega
    · rw [setD_other _ _ _ e, if_neg e]
  · rw [hx] at hex
    omega
/-- An entry is set: its frame stays. -/
theorem J.entry (h : J n q c D Q Lb ow P) {i : Int} {F : Sp} (hi : D i = some F) {p : Nat} (hp : p < 1024) (hF : (F p).1 = true) {w k : Bool} (hwk : w = false ∨ k = false) {P' : Int → Nat → Option Bool} (hP : P' i p = some (w || k)) (hP' : ∀ j r, ¬ (j = i ∧ r = p) → P' j r = P j r) (hw : w = true → Q (F p).2.2.2.toNat = 1) :
    J n q c (setD D i (some (updF F p (true, w, k, (F p).2.2.2)))) Q Lb ow P' := by
  have hid := h.pid i F hi
  obtain ⟨f0, hf0, hfn, hQ0, hfit⟩ := h.held hi hp hF
  have hlow := h.low
  have hs := sum_set (D := D) hid (some (updF F p (true, w, k, (F p).2.2.2)))
  have hcost : costD (some (updF F p (true, w, k, (F p).2.2.2))) = costD (D i) := by rw [hi]; exact costF_set hp hF rfl
  have hsum := h.sum
  have hok : okE true w k (F p).2.2.2 = true := by
    unfold okE
    rcases hwk with rfl | rfl <;> simp <;> omega
  have hcase : ∀ {j : Int} {K : Sp}, setD D i (some (updF F p (true, w, k, (F p).2.2.2))) j = some K → (j = i ∧ K = updF F p (true, w, k, (F p).2.2.2)) ∨ (j ≠ i ∧ D j = some K) := fun {j K} hj => by
    by_cases e : j = i
    · subst e; rw [setD_same] at hj; exact Or.inl ⟨rfl, (Option.some.inj hj).symm⟩
    · rw [setD_other _ _ _ e] at hj; exact Or.inr ⟨e, hj⟩
  have hpg : ∀ {j : Int} {K : Sp} {r : Nat}, setD D i (some (updF F p (true, w, k, (F p).2.2.2))) j = some K → r < 1024 → (K r).1 = true → ∃ K', D j = some K' ∧ (K' r).1 = true ∧ (K r).2.2.2 = (K' r).2.2.2 ∧ ((j = i ∧ r = p ∧ K r = (true, w, k, (F p).2.2.2)) ∨ (¬ (j = i ∧ r = p) ∧ K r = K' r)) := fun {j K r} hj hr hK => by
    rcases hcase hj with ⟨rfl, rfl⟩ | ⟨hne, hj⟩
    · by_cases e : r = p
      · subst e; rw [updF_same]; exact ⟨F, hi, hF, rfl, Or.inl ⟨rfl, rfl, rfl⟩⟩
      · rw [updF_other _ _ _ _ e] at hK ⊢; exact ⟨F, hi, hK, rfl, Or.inr ⟨fun e2 => e e2.2, rfl⟩⟩
    · exact ⟨K, hj, hK, rfl, Or.inr ⟨fun e2 => hne e2.1, rfl⟩⟩
  refine ⟨fun j K hj => ?_, fun j K r hj => ?_, fun j l K M r s hj hl hr hs' hK hM he => ?_, fun f => ?_, fun j K r hj hr hK => ?_, fun j K r hj hr hK hw' => ?_, fun j => ?_, h.tree, by omega, h.low⟩
  · rcases hcase hj with ⟨rfl, _⟩ | ⟨_, hj⟩
    · exact hid
    · exact h.pid j K hj
  · rcases hcase hj with ⟨rfl, rfl⟩ | ⟨_, hj⟩
    · by_cases e : r = p
      · subst e; rw [updF_same]; exact Or.inr ⟨rfl, hfit.2.1, hok⟩
      · rw [updF_other _ _ _ _ e]; exact h.fit j F r hi
    · exact h.fit j K r hj
  · obtain ⟨K', a1, a2, a3, _⟩ := hpg hj hr hK
    obtain ⟨M', b1', b2, b3, _⟩ := hpg hl hs' hM
    rw [a3, b3] at he
    exact h.one j l K' M' r s a1 b1' hr hs' a2 b2 he
  · have hc1 := cnt_set h.cnt hid (some (updF F p (true, w, k, (F p).2.2.2))) f
    have h1 : hasO (some (updF F p (true, w, k, (F p).2.2.2))) f = hasO (D i) f := by
      rw [hi]
      by_cases e : (F p).2.2.2 = (f : Int)
      · rw [show hasO (some F) f = true from (hasF_iff _ _).2 ⟨p, hp, hF, e⟩]
        exact hasF_upd_on hp ⟨rfl, e⟩
      · exact hasF_upd_other (fun hh => e hh.2) (fun hh => e hh.2)
    rw [h1] at hc1
    omega
  · obtain ⟨K', a1, a2, a3, a4⟩ := hpg hj hr hK
    rcases a4 with ⟨rfl, rfl, e⟩ | ⟨hne, e⟩
    · rw [e]; exact hP
    · rw [hP' j r hne, e]; exact h.perm j K' r a1 hr a2
  · obtain ⟨K', a1, a2, a3, a4⟩ := hpg hj hr hK
    rcases a4 with ⟨rfl, rfl, e⟩ | ⟨hne, e⟩
    · rw [e] at hw' ⊢; exact hw hw'
    · rw [e] at hw' ⊢; exact h.excl j K' r a1 hr a2 hw'
  · rw [h.bud j]
    by_cases e : j = i
    · subst e; rw [setD_same, hcost]
    · rw [setD_other _ _ _ e]
end
end Go.Proofs.YtkenipanpimolaaGreatDoor

/- What always holds of spaces: a page that goes, is shared, is copied; a space that comes, or goes. Nothing of a program. -/
namespace Go.Proofs.YtkenipanpimolaaGreatDoor
set_option maxRecDepth 100000

theorem sum8_two {f : Int → Nat} {i l : Int} (hi : 1 ≤ i ∧ i ≤ 8) (hl : 1 ≤ l ∧ l ≤ 8) (hne : l ≠ i) : f i + f l ≤ sum8 f := by
  have h1 := sum8_upd (f := f) (g := fun j => if j = i then 0 else f j) hi (fun j hj => if_neg hj)
  have h2 := sum8_ge (fun j => if j = i then 0 else f j) hl
  simp only [if_neg hne, if_true] at h1 h2
  omega
theorem exQ_ge (Q : Nat → Nat) (x : Nat) : ∀ {k : Nat}, x < k → Q x - 1 ≤ exQ Q k
  | k + 1, hx => by
    rw [exQ]
    by_cases e : x = k
    · subst e; omega
    · have := exQ_ge Q x (k := k) (by omega); omega
theorem hasF_empty {F : Sp} (h : ∀ p, p < 1024 → (F p).1 = false) (f : Nat) : hasF F f = false := by
  cases hh : hasF F f with
  | false => rfl
  | true =>
    obtain ⟨r, hr, a, _⟩ := (hasF_iff _ _).1 hh
    rw [h r hr] at a; cases a
theorem setD_ways {D : Int → Option Sp} {i j : Int} {v K : Sp} (h : setD D i (some v) j = some K) : (j = i ∧ K = v) ∨ (j ≠ i ∧ D j = some K) := by
  by_cases e : j = i
  · subst e; rw [setD_same] at h; exact Or.inl ⟨rfl, (Option.some.inj h).symm⟩
  · rw [setD_other _ _ _ e] at h; exact Or.inr ⟨e, h⟩
section
variable {n q c : Nat} {D : Int → Option Sp} {Q : Nat → Nat} {Lb : List Nd} {ow : Int → Nat} {P : Int → Nat → Option Bool}
theorem J.roomX (h : J n q c D Q Lb ow P) (f : Nat) (hf : f < n) : Q f - 1 ≤ c := by
  have h1 := tree_room h.tree 0
  have h2 : sum8 (usedN Lb) = sum8 (fun i => costD (D i)) + sum8 ow := by rw [← sum8_add]; exact sum8_congr fun j _ => h.bud j
  have h3 := h.sum
  have h4 := exQ_ge Q f (k := 1024) (by have := h.low; omega)
  have h5 := h.tree.leftL 0
  omega
/-- A page goes. -/
theorem J.drop (h : J n q c D Q Lb ow P) {i : Int} {F : Sp} (hi : D i = some F) {p f : Nat} (hp : p < 1024) (hF : (F p).1 = true) (hf : (F p).2.2.2 = (f : Int)) :
    J n q (c + newT (updF F p z0) p + (if Q f = 1 then 1 else 0)) (setD D i (some (updF F p z0))) (upd Q f (Q f - 1)) Lb (addO ow i (1 + newT (updF F p z0) p)) P := by
  have hid := h.pid i F hi
  obtain ⟨f', hf', hfn, hQ0, hfit⟩ := h.held hi hp hF
  obtain rfl : f' = f := by omega
  have hlow := h.low
  have hex := exQ_upd Q f' (Q f' - 1) (k := 1024) (by omega)
  have hs := sum_set (D := D) hid (some (updF F p z0))
  have hcost : costD (D i) = costD (some (updF F p z0)) + 1 + newT (updF F p z0) p := by rw [hi]; exact costF_unmap hp hF
  have hsum := h.sum
  have hpg : ∀ {j : Int} {K : Sp} {r : Nat}, setD D i (some (updF F p z0)) j = some K → r < 1024 → (K r).1 = true → ∃ K', D j = some K' ∧ K r = K' r ∧ (K' r).1 = true ∧ ¬ (j = i ∧ r = p) := fun {j K r} hj hr hK => by
    rcases setD_ways hj with ⟨rfl, rfl⟩ | ⟨hne, hj⟩
    · by_cases e : r = p
      · subst e; rw [updF_same] at hK; cases hK
      · rw [updF_other _ _ _ _ e] at hK ⊢; exact ⟨F, hi, rfl, hK, fun e2 => e e2.2⟩
    · exact ⟨K, hj, rfl, hK, fun e2 => hne e2.1⟩
  refine ⟨fun j K hj => ?_, fun j K r hj => ?_, fun j l K M r s hj hl hr hs' hK hM he => ?_, fun g => ?_, fun j K r hj hr hK => ?_, fun j K r hj hr hK hw => ?_, fun j => ?_, h.tree, ?_, h.low⟩
  · rcases setD_ways hj with ⟨rfl, _⟩ | ⟨_, hj⟩
    · exact hid
    · exact h.pid j K hj
  · rcases setD_ways hj with ⟨rfl, rfl⟩ | ⟨_, hj⟩
    · by_cases e : r = p
      · subst e; rw [updF_same]; exact Or.inl rfl
      · rw [updF_other _ _ _ _ e]; exact h.fit j F r hi
    · exact h.fit j K r hj
  · obtain ⟨K', a1, a2, a3, _⟩ := hpg hj hr hK
    obtain ⟨M', b1', b2, b3, _⟩ := hpg hl hs' hM
    rw [a2, b2] at he
    exact h.one j l K' M' r s a1 b1' hr hs' a3 b3 he
  · have hc1 := cnt_set h.cnt hid (some (updF F p z0)) g
    by_cases e : g = f'
    · subst e
      have h1 : hasO (D i) g = true := by rw [hi]; exact (hasF_iff _ _).2 ⟨p, hp, hF, hf⟩
      have h2 : hasO (some (updF F p z0)) g = false := by
        cases hh : hasO (some (updF F p z0)) g with
        | false => rfl
        | true =>
          obtain ⟨r, hr, a, b⟩ := (hasF_iff _ _).1 hh
          by_cases er : r = p
          · subst er; rw [updF_same] at a; cases a
          · rw [updF_other _ _ _ _ er] at a b
            exact absurd (h.one i i F F r p hi hi hr hp a hF (by rw [b, hf])) er
      rw [h1, h2] at hc1
      rw [upd_same]
      simp only [b1, Bool.false_eq_true, if_false, if_true] at hc1 ⊢
      omega
    · have h1 : hasO (some (updF F p z0)) g = hasO (D i) g := by
        rw [hi]
        exact hasF_upd_other (fun hh => by omega) (fun hh => by cases hh.1)
      rw [h1] at hc1
      rw [upd_other _ _ _ _ e]
      omega
  · obtain ⟨K', a1, a2, a3, _⟩ := hpg hj hr hK
    rw [a2]; exact h.perm j K' r a1 hr a3
  · obtain ⟨K', a1, a2, a3, a4⟩ := hpg hj hr hK
    rw [a2] at hw ⊢
    have he := h.excl j K' r a1 hr a3 hw
    obtain ⟨g, hg, _, _, _⟩ := h.held a1 hr a3
    rw [hg, Int.toNat_natCast] at he ⊢
    by_cases e : g = f'
    · subst e
      have er := h.one j i K' F r p a1 hi hr hp a3 hF (by rw [hg, hf])
      have hji : j ≠ i := fun e2 => a4 ⟨e2, er⟩
      have h1 : hasO (D i) g = true := by rw [hi]; exact (hasF_iff _ _).2 ⟨p, hp, hF, hf⟩
      have h2 : hasO (D j) g = true := by rw [a1]; exact (hasF_iff _ _).2 ⟨r, hr, a3, hg⟩
      have := sum8_two (f := fun l => b1 (hasO (D l) g)) hid (h.pid j K' a1) hji
      rw [← h.cnt g, he, h1, h2] at this
      simp [b1] at this
    · rw [upd_other _ _ _ _ e]; exact he
  · rw [h.bud j]
    unfold addO
    by_cases e : j = i
    · subst e; rw [setD_same, if_pos rfl, hcost]; omega
    · rw [setD_other _ _ _ e, if_neg e]
  · split
    · omega
    · omega
/-- A page is another one's, too. -/
theorem J.share (h : J n q c D Q Lb ow P) {i : Int} {F : Sp} (hi : D i = some F) {p f : Nat} (hp : p < 1024) (hF : (F p).1 = false) {j0 : Int} {K0 : Sp} (hj0 : D j0 = some K0) (hK0 : (K0 p).1 = true) (hf : (K0 p).2.2.2 = (f : Int)) (hno : ∀ j K, D j = some K → (K p).1 = true → (K p).2.2.2 = (f : Int) → (K p).2.1 = false) {k : Bool} (hP : P i p = some k) (ho : 1 + newT F p ≤ ow i) :
    J n q (c - newT F p) (setD D i (some (updF F p (true, false, k, (f : Int))))) (upd Q f (Q f + 1)) Lb (subO ow i (1 + newT F p)) P := by
  have hid := h.pid i F hi
  have hc := h.ow1 i
  obtain ⟨f', hf', hfn, hQ0, _⟩ := h.held hj0 hp hK0
  obtain rfl : f' = f := by omega
  have hlow := h.low
  have hex := exQ_upd Q f' (Q f' + 1) (k := 1024) (by omega)
  have hs := sum_set (D := D) hid (some (updF F p (true, false, k, (f' : Int))))
  have hcost : costD (some (updF F p (true, false, k, (f' : Int)))) = costD (D i) + 1 + newT F p := by rw [hi]; exact costF_map hp hF rfl
  have hsum := h.sum
  have hok : okE true false k (f' : Int) = true := by
    unfold okE
    simp; omega
  have hat : ∀ j K r, D j = some K → r < 1024 → (K r).1 = true → (K r).2.2.2 = (f' : Int) → r = p := fun j K r hj hr hK e => h.one j j0 K K0 r p hj hj0 hr hp hK hK0 (by rw [e, hf])
  have hpg : ∀ {j : Int} {K : Sp} {r : Nat}, setD D i (some (updF F p (true, false, k, (f' : Int)))) j = some K → r < 1024 → (K r).1 = true → (j = i ∧ r = p ∧ K r = (true, false, k, (f' : Int))) ∨ (∃ K', D j = some K' ∧ K r = K' r ∧ (K' r).1 = true) := fun {j K r} hj hr hK => by
    rcases setD_ways hj with ⟨rfl, rfl⟩ | ⟨_, hj⟩
    · by_cases e : r = p
      · subst e; exact Or.inl ⟨rfl, rfl, updF_same _ _ _⟩
      · rw [updF_other _ _ _ _ e] at hK ⊢; exact Or.inr ⟨F, hi, rfl, hK⟩
    · exact Or.inr ⟨K, hj, rfl, hK⟩
  refine ⟨fun j K hj => ?_, fun j K r hj => ?_, fun j l K M r s hj hl hr hs' hK hM he => ?_, fun g => ?_, fun j K r hj hr hK => ?_, fun j K r hj hr hK hw => ?_, fun j => ?_, h.tree, ?_, h.low⟩
  · rcases setD_ways hj with ⟨rfl, _⟩ | ⟨_, hj⟩
    · exact hid
    · exact h.pid j K hj
  · rcases setD_ways hj with ⟨rfl, rfl⟩ | ⟨_, hj⟩
    · by_cases e : r = p
      · subst e; rw [updF_same]; exact Or.inr ⟨rfl, by simp only; omega, hok⟩
      · rw [updF_other _ _ _ _ e]; exact h.fit j F r hi
    · exact h.fit j K r hj
  · rcases hpg hj hr hK with ⟨_, e1, e2⟩ | ⟨K', a1, a2, a3⟩
    · rcases hpg hl hs' hM with ⟨_, e3, _⟩ | ⟨M', b1', b2, b3⟩
      · omega
      · rw [e2, b2] at he
        rw [e1]; exact (hat l M' s b1' hs' b3 he.symm).symm
    · rcases hpg hl hs' hM with ⟨_, e3, e4⟩ | ⟨M', b1', b2, b3⟩
      · rw [a2, e4] at he
        rw [e3]; exact hat j K' r a1 hr a3 he
      · rw [a2, b2] at he
        exact h.one j l K' M' r s a1 b1' hr hs' a3 b3 he
  · have hc1 := cnt_set h.cnt hid (some (updF F p (true, false, k, (f' : Int)))) g
    by_cases e : g = f'
    · subst e
      have h1 : hasO (D i) g = false := by
        rw [hi]
        cases hh : hasF F g with
        | false => exact hh
        | true =>
          obtain ⟨r, hr, a, b⟩ := (hasF_iff _ _).1 hh
          have := hat i F r hi hr a b
          rw [this, hF] at a; cases a
      have h2 : hasO (some (updF F p (true, false, k, (g : Int)))) g = true := hasF_upd_on hp ⟨rfl, rfl⟩
      rw [h1, h2] at hc1
      rw [upd_same]
      simp only [b1, Bool.false_eq_true, if_false, if_true] at hc1 ⊢
      omega
    · have h1 : hasO (some (updF F p (true, false, k, (f' : Int)))) g = hasO (D i) g := by
        rw [hi]
        exact hasF_upd_other (by rw [hF]; simp) (by simp only [true_and]; omega)
      rw [h1] at hc1
      rw [upd_other _ _ _ _ e]
      omega
  · rcases hpg hj hr hK with ⟨rfl, rfl, e2⟩ | ⟨K', a1, a2, a3⟩
    · rw [e2]; simpa using hP
    · rw [a2]; exact h.perm j K' r a1 hr a3
  · rcases hpg hj hr hK with ⟨rfl, rfl, e2⟩ | ⟨K', a1, a2, a3⟩
    · rw [e2] at hw; cases hw
    · rw [a2] at hw ⊢
      obtain ⟨g, hg, _, _, _⟩ := h.held a1 hr a3
      have he := h.excl j K' r a1 hr a3 hw
      rw [hg, Int.toNat_natCast] at he ⊢
      by_cases e : g = f'
      · subst e
        have er := hat j K' r a1 hr a3 hg
        subst er
        rw [hno j K' a1 a3 hg] at hw; cases hw
      · rw [upd_other _ _ _ _ e]; exact he
  · rw [h.bud j]
    unfold subO
    by_cases e : j = i
    · subst e; rw [setD_same, if_pos rfl, hcost]; omega
    · rw [setD_other _ _ _ e, if_neg e]
  · omega
theorem setD_setD (D : Int → Option Sp) (i : Int) (u v : Option Sp) : setD (setD D i u) i v = setD D i v := by
  funext j; unfold setD; split <;> rfl
theorem setD_swap (D : Int → Option Sp) {i j : Int} (h : i ≠ j) (u v : Option Sp) : setD (setD D i u) j v = setD (setD D j v) i u := by
  funext k; unfold setD
  by_cases e1 : k = j
  · subst e1; rw [if_pos rfl, if_neg (fun e => h e.symm), if_pos rfl]
  · rw [if_neg e1, if_neg e1]
theorem subO_addO (ow : Int → Nat) (i : Int) (v : Nat) : subO (addO ow i v) i v = ow := by
  funext j; unfold subO addO; split <;> omega
theorem upd_comm (Q : Nat → Nat) {x y : Nat} (h : x ≠ y) (u v : Nat) : upd (upd Q x u) y v = upd (upd Q y v) x u := by
  funext j; unfold upd
  by_cases e : j = y
  · subst e; rw [if_pos rfl, if_neg (fun e => h e.symm), if_pos rfl]
  · rw [if_neg e, if_neg e]
/-- A page is copied, whose frame others hold, too. -/
theorem J.dup (h : J n q c D Q Lb ow P) {i : Int} {F : Sp} (hi : D i = some F) {p f x : Nat} (hp : p < 1024) (hF : (F p).1 = true) (hf : (F p).2.2.2 = (f : Int)) (hP : P i p = some true) (hQ : 1 < Q f) (hx : Q x = 0) (hxn : x < n) :
    J n q (c - 1) (setD D i (some (updF F p (true, true, false, (x : Int))))) (upd (upd Q x 1) f (Q f - 1)) Lb ow P := by
  have hne : x ≠ f := by rintro rfl; omega
  have h1 := h.drop hi hp hF hf
  rw [if_neg (by omega)] at h1
  have h2 := h1.touch (i := i) (F := updF F p z0) (setD_same _ _ _) (p := p) (x := x) hp (by rw [updF_same]; rfl) (by rw [upd_other _ _ _ _ hne]; exact hx) hxn (w := true) (k := false) (Or.inr rfl) hP (by unfold addO; rw [if_pos rfl]; omega)
  rw [setD_setD, updF_updF, subO_addO, upd_comm Q (fun e => hne e.symm)] at h2
  have e : c + newT (updF F p z0) p + 0 - 1 - newT (updF F p z0) p = c - 1 := by omega
  rwa [e] at h2
/-- A space comes. -/
theorem J.open_ (h : J n q c D Q Lb ow P) {i : Int} (hi : D i = none) (hid : 1 ≤ i ∧ i ≤ 8) (ho : 1 ≤ ow i) : J n q (c - 1) (setD D i (some noF)) Q Lb (subO ow i 1) P := by
  have hc := h.ow1 i
  have hs := sum_set (D := D) hid (some noF)
  have hcost : costD (some noF) = costD (D i) + 1 := by rw [hi]; exact costF_no
  have hsum := h.sum
  have hpg : ∀ {j : Int} {K : Sp} {r : Nat}, setD D i (some noF) j = some K → r < 1024 → (K r).1 = true → D j = some K := fun {j K r} hj hr hK => by
    rcases setD_ways hj with ⟨rfl, rfl⟩ | ⟨_, hj⟩
    · cases hK
    · exact hj
  refine ⟨fun j K hj => ?_, fun j K r hj => ?_, fun j l K M r s hj hl hr hs' hK hM he => h.one j l K M r s (hpg hj hr hK) (hpg hl hs' hM) hr hs' hK hM he, fun g => ?_, fun j K r hj hr hK => h.perm j K r (hpg hj hr hK) hr hK, fun j K r hj hr hK hw => h.excl j K r (hpg hj hr hK) hr hK hw, fun j => ?_, h.tree, by omega, h.low⟩
  · rcases setD_ways hj with ⟨rfl, _⟩ | ⟨_, hj⟩
    · exact hid
    · exact h.pid j K hj
  · rcases setD_ways hj with ⟨rfl, rfl⟩ | ⟨_, hj⟩
    · exact Or.inl rfl
    · exact h.fit j K r hj
  · have hc1 := cnt_set h.cnt hid (some noF) g
    have h1 : hasO (some noF) g = false := hasF_empty (fun _ _ => rfl) g
    rw [h1, hi] at hc1
    exact hc1.symm
  · rw [h.bud j]
    unfold subO
    by_cases e : j = i
    · subst e; rw [setD_same, if_pos rfl, hcost]; omega
    · rw [setD_other _ _ _ e, if_neg e]
end
end Go.Proofs.YtkenipanpimolaaGreatDoor
