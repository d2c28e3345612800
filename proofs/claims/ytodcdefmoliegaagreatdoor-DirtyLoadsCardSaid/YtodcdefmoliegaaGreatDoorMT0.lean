/-
  Texts put together: T0, T1, T2, T3.
-/
import Derived.Test.YtodcdefmoliegaaGreatDoorA4
import Derived.Test.YtodcdefmoliegaaGreatDoorE5
import Derived.Test.YtodcdefmoliegaaGreatDoorR7
/-
  What a sector has: contracts of slot.read.
-/
namespace Go.Proofs.YtodcdefmoliegaaGreatDoor
open Go.RowKit
set_option linter.unusedVariables false
set_option linter.unusedSimpArgs false

/-- A box of three cells. -/
def Box3 (W : World) (b : Nat) (t : TypeId) (x y z : Value) : Prop := W.heap[b]? = some (.cells #[x, y, z] t (0, 0))
theorem Box3.c0 {W b t x y z} (h : Box3 W b t x y z) : W.cell? ⟨b, 0, none⟩ = some x := by rw [cell_of_blk h]; rfl
theorem Box3.c1 {W b t x y z} (h : Box3 W b t x y z) : W.cell? ⟨b, 1, none⟩ = some y := by rw [cell_of_blk h]; rfl
theorem Box3.c2 {W b t x y z} (h : Box3 W b t x y z) : W.cell? ⟨b, 2, none⟩ = some z := by rw [cell_of_blk h]; rfl
theorem Box3.f0 {W b t x y z} (h : Box3 W b t x y z) : W.frozen? ⟨b, 0, none⟩ = false := free_of_blk h 0
theorem Box3.f1 {W b t x y z} (h : Box3 W b t x y z) : W.frozen? ⟨b, 1, none⟩ = false := free_of_blk h 1
theorem Box3.f2 {W b t x y z} (h : Box3 W b t x y z) : W.frozen? ⟨b, 2, none⟩ = false := free_of_blk h 2
theorem Box3.lt {W b t x y z} (h : Box3 W b t x y z) : b < W.heap.size := lt_of_block h
theorem Box3.new (W : World) (t : TypeId) (x y z : Value) : Box3 (W.alloc (.cells #[x, y, z] t)) W.heap.size t x y z := heap_alloc_new W _
theorem Box3.alloc {W b t x y z} (h : Box3 W b t x y z) (o : Obj) : Box3 (W.alloc o) b t x y z := (Below.heap_alloc _ _ _ h.lt).trans h
theorem Box3.set0 {W b t x y z} (h : Box3 W b t x y z) (v : Value) : Box3 (W.setCell ⟨b, 0, none⟩ v) b t v y z := blk_setCell h
theorem Box3.set1 {W b t x y z} (h : Box3 W b t x y z) (v : Value) : Box3 (W.setCell ⟨b, 1, none⟩ v) b t x v z := blk_setCell h
theorem Box3.set2 {W b t x y z} (h : Box3 W b t x y z) (v : Value) : Box3 (W.setCell ⟨b, 2, none⟩ v) b t x y v := blk_setCell h
theorem Box3.below {W W' b t x y z n} (h : Box3 W b t x y z) (hb : Below n W W') (hl : b < n) : Box3 W' b t x y z := (hb.block b hl).trans h
theorem Box3.grown {W W' b t x y z row} (h : Box3 W b t x y z) (hg : W.grownBy W' row) (hne : row ≠ some b) : Box3 W' b t x y z := (hg.block b h.lt (fun e => hne e.symm)).trans h
theorem below_set3 {W W' : World} {n b i : Nat} {v : Value} (h : Below n W W') (hl : n ≤ b) : Below n W (W'.setCell ⟨b, i, none⟩ v) := h.setCell (p := ⟨b, i, none⟩) hl v

structure CT where
  f : Bool
  n : Nat
  s : List UInt8
def noCT : CT := ⟨false, 0, []⟩
def CT.val (c : CT) : Value := .agg #[.bool c.f, .int .u64 (c.n : Int), strV c.s]
/-- What a sector's text is as a slot's record. -/
def slotP (kind : Int) (xs : List UInt8) : CT :=
  if (openP kind xs).2 = 0 ∧ 8 ≤ (openP kind xs).1.length then ⟨true, numN ((openP kind xs).1.take 8), (openP kind xs).1.drop 8⟩ else noCT
def readP (S : DS) (at' kind : Int) : CT × Int := if (S.read at').2 ≠ 0 then (noCT, (S.read at').2) else (slotP kind (S.read at').1.data.toList, 0)

theorem bytes_of (s : ByteArray) : ∃ xs : List UInt8, s = ⟨xs.toArray⟩ ∧ s.data.toList = xs := ⟨s.data.toList, by cases s; simp, rfl⟩

/-- The result's box with a content stored. -/
theorem box_ct {W b t x y z} (h : Box3 W b t x y z) (u v r : Value) : Box3 (((W.setCell ⟨b, 0, none⟩ u).setCell ⟨b, 1, none⟩ v).setCell ⟨b, 2, none⟩ r) b t u v r := ((h.set0 u).set1 v).set2 r
theorem below_ct {W W' : World} {n b : Nat} {u v r : Value} (h : Below n W W') (hl : n ≤ b) : Below n W (((W'.setCell ⟨b, 0, none⟩ u).setCell ⟨b, 1, none⟩ v).setCell ⟨b, 2, none⟩ r) :=
  below_set3 (below_set3 (below_set3 h hl) hl) hl

theorem rnum_eight (ys : List UInt8) (h : 8 ≤ ys.length) : rnum ys 0 8 = (numN (ys.take 8), ys.drop 8, 0) := by
  unfold rnum
  rw [if_neg (by simp), if_neg (by omega), if_neg (by omega)]
  rfl
end Go.Proofs.YtodcdefmoliegaaGreatDoor
/-
  The later one of two contents: contracts of slot.later and slot.Load.
-/
namespace Go.Proofs.YtodcdefmoliegaaGreatDoor
open Go.RowKit
set_option linter.unusedVariables false
set_option linter.unusedSimpArgs false


def CT.no (c : CT) : Prop := c.f = false ∧ c.n = 0 ∧ c.s = []
instance (c : CT) : Decidable c.no := inferInstanceAs (Decidable (_ ∧ _))
def laterP (c d : CT) : CT := if c.no ∨ c.n < d.n then d else c
end Go.Proofs.YtodcdefmoliegaaGreatDoor
/-
  A slot's record: the contract of slot.Load.
-/
namespace Go.Proofs.YtodcdefmoliegaaGreatDoor
open Go.RowKit
set_option linter.unusedVariables false
set_option linter.unusedSimpArgs false

/-- A slot's record, or why there is none. -/
def loadP (S : DS) (at' kind : Int) : CT × Int :=
  if (readP S at' kind).2 ≠ 0 then (noCT, (readP S at' kind).2) else if (readP S (at' + 1) kind).2 ≠ 0 then (noCT, (readP S (at' + 1) kind).2) else
    if (laterP (readP S at' kind).1 (readP S (at' + 1) kind).1).no then (noCT, 10) else (laterP (readP S at' kind).1 (readP S (at' + 1) kind).1, 0)
def loadV (r : CT × Int) : Value := .tuple #[.int .u64 (r.1.n : Int), strV r.1.s, .int .i64 r.2]

theorem readP_has {S : DS} {at' kind : Int} (h : (readP S at' kind).2 = 0) : S.has at' := by
  have h1 : (S.read at').2 = 0 := by
    by_cases h2 : (S.read at').2 = 0
    · exact h2
    · unfold readP at h; rw [if_pos h2] at h; exact h
  by_cases hh : S.has at'
  · exact hh
  · unfold DS.read at h1
    by_cases ho : S.off = true
    · rw [if_pos ho] at h1; exact absurd h1 (by simp)
    · rw [if_neg ho, if_neg hh] at h1; exact absurd h1 (by simp)
end Go.Proofs.YtodcdefmoliegaaGreatDoor
/-
  A record is saved: the contract of slot.Save.
-/
namespace Go.Proofs.YtodcdefmoliegaaGreatDoor
open Go.RowKit
set_option linter.unusedVariables false
set_option linter.unusedSimpArgs false

theorem pp_trans {w w1 w2 : World} {B p : Nat} {v1 v2 : Value} {S1 S2 : DS} (h : PP w B p v1 v2 S1 w1) (k : ∀ a b, PD w1 B p a b S1 → PP w1 B p a b S2 w2) : PP w B p v1 v2 S2 w2 := by
  obtain ⟨a, b, hp, hf, ht⟩ := h
  obtain ⟨a2, b2, hp2, hf2, ht2⟩ := k a b hp
  exact ⟨a2, b2, hp2, hf.trans hf2 (fun i hi => ht i hi), fun i hi => (ht2 i hi).elim (ht i) (fun h => .inr (Nat.le_trans hf.size h))⟩
theorem pp_below {w w1 w2 : World} {B p : Nat} {v1 v2 : Value} {S : DS} (hb : Below w.heap.size w w1) (h : PP w1 B p v1 v2 S w2) : PP w B p v1 v2 S w2 := by
  obtain ⟨a, b, hp, hf, ht⟩ := h
  refine ⟨a, b, hp, ⟨hf.os.trans hb.os, hf.tape.trans hb.tape, hf.output.trans hb.output, Nat.le_trans hb.size hf.size, fun i hi hn => (hf.block i (Nat.lt_of_lt_of_le hi hb.size) hn).trans (hb.block i hi)⟩, fun i hi => (ht i hi).elim .inl (fun h => .inr (Nat.le_trans hb.size h))⟩
theorem pp_after {w w1 : World} {B p : Nat} {v1 v2 : Value} {S : DS} (h : PD w B p v1 v2 S) (hb : Below w.heap.size w w1) : PP w B p v1 v2 S w1 := pp_below hb (PP.same (h.below hb))

/-- A save: the answer, and the disk then. -/
def saveP (S : DS) (at' kind : Int) (seq : Nat) (xs : List UInt8) : Int × DS :=
  if at' < 0 ∨ 1200 < at' then (3, S) else if 50 < xs.length then (8, S) else
    if (makeP kind (enc seq 8 ++ xs)).2 ≠ 0 then (((makeP kind (enc seq 8 ++ xs)).2 : Int), S) else
      if (S.write (at' + ((seq % 2 : Nat) : Int)) ⟨(makeP kind (enc seq 8 ++ xs)).1.toArray⟩).1 ≠ 0 then S.write (at' + ((seq % 2 : Nat) : Int)) ⟨(makeP kind (enc seq 8 ++ xs)).1.toArray⟩
      else (S.write (at' + ((seq % 2 : Nat) : Int)) ⟨(makeP kind (enc seq 8 ++ xs)).1.toArray⟩).2.flush

theorem saveP_ok {S : DS} {N : Nat} (h : S.ok N) (at' kind : Int) (seq : Nat) (xs : List UInt8) : (saveP S at' kind seq xs).2.ok (N + 2) := by
  unfold saveP
  split
  · exact h.mono (by omega)
  · split
    · exact h.mono (by omega)
    · split
      · exact h.mono (by omega)
      · split
        · exact (h.write _ _).mono (by omega)
        · exact (h.write _ _).flush
end Go.Proofs.YtodcdefmoliegaaGreatDoor
