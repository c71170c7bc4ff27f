/- What lies in memory while TrapSave, layer 4, walks: both memories, and the traps' boxes; the document's Write at any place. No condition. -/
import Derived.Test.YteohfonmckahgaaT14
namespace Go.Proofs.Yteohfonmckahgaa
open Go.RowKit
set_option maxRecDepth 100000

theorem rwrite_i (rp rb n : Nat) (L : List Int) (f q v : Int) (w : World) (hr : RefSt w rp rb n L) (h : okFQ n f q) :
    Calls Try.prog 17 #[.pointer (some ⟨rp, 0, none⟩), .int .i64 f, .int .i64 q, .int .u32 v] w fun e w' => e = .returned (.int .i64 0) ∧ RPuts w w' rp rb n (L.set (idx f q) v) := by
  unfold okFQ at h
  obtain ⟨f', rfl⟩ := Int.eq_ofNat_of_zero_le h.1
  obtain ⟨q', rfl⟩ := Int.eq_ofNat_of_zero_le h.2.2.1
  exact rwrite_yes rp rb n L f' q' v w hr (by omega) (by omega)
theorem Duo.base {W w0 w : World} {mp fb rp rb n : Nat} {L K : List Int} (h : Duo w0 mp fb rp rb n L K w) (hb : Below W.heap.size W w0) : Duo W mp fb rp rb n L K w :=
  ⟨h.m, h.r, hb.trans (h.below.mono hb.size), Nat.le_trans hb.size h.lf, Nat.le_trans hb.size h.lr, h.ne1, h.ne2, h.ne3⟩

/-- A box that neither memory's words lie in. -/
structure BoxAt (w : World) (b fb rb : Nat) (T : List Int) : Prop where
  row : w.heap[b]? = some (.cells (wordsV T) 26 (0, 0))
  nf : b ≠ fb
  nr : b ≠ rb
theorem BoxAt.step {w w' : World} {b fb rb : Nat} {T : List Int} (h : BoxAt w b fb rb T) (hb : Below w.heap.size w w') : BoxAt w' b fb rb T := ⟨below_block hb h.row, h.nf, h.nr⟩
theorem BoxAt.put {w w' : World} {b fb rb mp n : Nat} {T L : List Int} (h : BoxAt w b fb rb T) (k : Puts w w' mp fb n L) : BoxAt w' b fb rb T :=
  ⟨(k.grown.block b (lt_of_block h.row) (fun e => h.nf (Option.some.inj e))).trans h.row, h.nf, h.nr⟩
theorem BoxAt.rput {w w' : World} {b fb rb rp n : Nat} {T L : List Int} (h : BoxAt w b fb rb T) (k : RPuts w w' rp rb n L) : BoxAt w' b fb rb T :=
  ⟨(k.grown.block b (lt_of_block h.row) (fun e => h.nr (Option.some.inj e))).trans h.row, h.nf, h.nr⟩

structure SaveSt (W : World) (mp fb rp rb n tb ub : Nat) (T U L K : List Int) (w : World) : Prop where
  duo : Duo W mp fb rp rb n L K w
  t : BoxAt w tb fb rb T
  u : BoxAt w ub fb rb U
section
variable {W w w' : World} {mp fb rp rb n tb ub : Nat} {T U L K M : List Int}
theorem SaveSt.step (h : SaveSt W mp fb rp rb n tb ub T U L K w) (hb : Below w.heap.size w w') : SaveSt W mp fb rp rb n tb ub T U L K w' := ⟨h.duo.step hb, h.t.step hb, h.u.step hb⟩
theorem SaveSt.put (h : SaveSt W mp fb rp rb n tb ub T U L K w) (k : Puts w w' mp fb n M) : SaveSt W mp fb rp rb n tb ub T U M K w' := ⟨h.duo.put k, h.t.put k, h.u.put k⟩
theorem SaveSt.rput (h : SaveSt W mp fb rp rb n tb ub T U L K w) (k : RPuts w w' rp rb n M) : SaveSt W mp fb rp rb n tb ub T U L M w' := ⟨h.duo.rput k, h.t.rput k, h.u.rput k⟩
/-- A trap that is laid in new memory lies in a box of its own. -/
theorem SaveSt.laid (h : SaveSt W mp fb rp rb n tb ub T U L K w) (R : List Int) : SaveSt W mp fb rp rb n tb ub T U L K ((w.alloc (.cells (wordsV z10) 26)).setRow w.heap.size (wordsV R)) ∧
    BoxAt ((w.alloc (.cells (wordsV z10) 26)).setRow w.heap.size (wordsV R)) w.heap.size fb rb R :=
  have N := laid_new w R
  ⟨h.step N.1, N.2, fun e => by have := lt_of_block h.duo.m.row; omega, fun e => by have := lt_of_block h.duo.r.row; omega⟩
/-- Another trap is laid over it. -/
theorem SaveSt.over {b : Nat} {R : List Int} (h : SaveSt W mp fb rp rb n tb ub T U L K w) (hb : BoxAt w b fb rb R) (hW : W.heap.size ≤ b) (h1 : b ≠ mp) (h2 : b ≠ rp) (h3 : b ≠ tb) (h4 : b ≠ ub) (S : List Int) :
    SaveSt W mp fb rp rb n tb ub T U L K (w.setRow b (wordsV S)) ∧ BoxAt (w.setRow b (wordsV S)) b fb rb S := by
  have o : ∀ k, k ≠ b → (w.setRow b (wordsV S)).heap[k]? = w.heap[k]? := fun k hk => setRow_other w b k _ hk
  refine ⟨⟨⟨⟨(o mp (fun e => h1 e.symm)).trans h.duo.m.box, (o fb (fun e => hb.nf e.symm)).trans h.duo.m.row, h.duo.m.len, h.duo.m.ne, h.duo.m.pos, h.duo.m.top⟩, ⟨(o rp (fun e => h2 e.symm)).trans h.duo.r.box, (o rb (fun e => hb.nr e.symm)).trans h.duo.r.row, h.duo.r.len, h.duo.r.ne, h.duo.r.top⟩,
    below_setRow h.duo.below hW _, h.duo.lf, h.duo.lr, h.duo.ne1, h.duo.ne2, h.duo.ne3⟩, ⟨(o tb (fun e => h3 e.symm)).trans h.t.row, h.t.nf, h.t.nr⟩, ⟨(o ub (fun e => h4 e.symm)).trans h.u.row, h.u.nf, h.u.nr⟩⟩, setRow_heap w b _ _ _ _ hb.row, hb.nf, hb.nr⟩
theorem SaveSt.laid2 (h : SaveSt W mp fb rp rb n tb ub T U L K w) (R S : List Int) : SaveSt W mp fb rp rb n tb ub T U L K (((w.alloc (.cells (wordsV z10) 26)).setRow w.heap.size (wordsV R)).setRow w.heap.size (wordsV S)) ∧
    BoxAt (((w.alloc (.cells (wordsV z10) 26)).setRow w.heap.size (wordsV R)).setRow w.heap.size (wordsV S)) w.heap.size fb rb S :=
  (h.laid R).1.over (h.laid R).2 h.duo.below.size (fun e => by have := lt_of_block h.duo.m.box; omega) (fun e => by have := lt_of_block h.duo.r.box; omega) (fun e => by have := lt_of_block h.t.row; omega) (fun e => by have := lt_of_block h.u.row; omega) S
end
/-- Ten words that the other memory's words do not lie in. -/
structure TenAtB (w : World) (b rb : Nat) (T : List Int) : Prop where
  cell : ∀ j, j < 10 → w.cell? ⟨b, j, none⟩ = some (.int .u32 (T.getD j 0))
  ne : b ≠ rb
theorem TenAtB.step {w w' : World} {b rb : Nat} {T : List Int} (h : TenAtB w b rb T) (hb : Below w.heap.size w w') : TenAtB w' b rb T :=
  ⟨fun j hj => (hb.cell (p := ⟨b, j, none⟩) (block_lt_of_cell (h.cell j hj))).trans (h.cell j hj), h.ne⟩
theorem TenAtB.rput {w w' : World} {b rp rb n : Nat} {T L : List Int} (h : TenAtB w b rb T) (k : RPuts w w' rp rb n L) : TenAtB w' b rb T :=
  ⟨fun j hj => k.grown.cell (h.cell j hj) (fun e => h.ne (Option.some.inj e)), h.ne⟩

/-- Two slots' words are as one behind the other. -/
theorem putK_step (L : List Int) (i : Nat) (T : List Int) (k : Nat) : (putK L i T k).set (i + k) (T.getD k 0) = putK L i T (k + 1) := rfl
def SaveRel2 (W : World) (mp fb rp rb n tb ub : Nat) (T U : List Int) (i : Value) (wr : World) : Prop := ∃ (k : Nat) (L : List Int), i = .int .i64 k ∧ k ≤ 2 ∧ SaveSt W mp fb rp rb n tb ub T U L L wr
def SaveIn (W : World) (mp fb rp rb n tb ub xb yb b2 : Nat) (T U X L : List Int) (i0 : Nat) (L' : List Int) (i : Value) (wr : World) : Prop :=
  ∃ j : Nat, i = .int .i64 j ∧ j ≤ 10 ∧ SaveSt W mp fb rp rb n tb ub T U L' (putK L i0 X j) wr ∧ BoxAt wr xb fb rb X ∧ BoxAt wr yb fb rb X ∧ TenAtB wr b2 rb X
def SaveEnd (W : World) (mp fb rp rb n : Nat) (L : List Int) (i : Value) (wr : World) : Prop := ∃ k : Nat, i = .int .i64 k ∧ k ≤ n ∧ Duo W mp fb rp rb n L L wr
end Go.Proofs.Yteohfonmckahgaa
