/-
  Texts put together: EA, EB, EC.
-/
import Derived.Test.YtjohgagiccndpaaGreatDoorME2
/-
  An act to both disks (do).
-/
namespace Go.Proofs.YtjohgagiccndpaaGreatDoor
open Go.RowKit
set_option linter.unusedVariables false
set_option linter.unusedSimpArgs false

/-- Both disks, in the same state; A: the blocks that are theirs. -/
def Two (w : World) (B p q : Nat) (A : Nat → Prop) (S : DS) : Prop :=
  ∃ v1 v2 u1 u2, PD w B p v1 v2 S ∧ RD w B q u1 u2 S ∧ (∀ k, foot p v1 v2 k → ¬ foot q u1 u2 k) ∧ ∀ k, A k ↔ foot p v1 v2 k ∨ foot q u1 u2 k

theorem Two.low {w B p q A S} (h : Two w B p q A S) : ∀ k, A k → B ≤ k ∧ k < w.heap.size := by
  obtain ⟨v1, v2, u1, u2, hp, hq, hd, hA⟩ := h
  intro k hk
  rcases (hA k).1 hk with h | h
  · exact hp.foot_low k h
  · exact hq.foot_low k h

theorem Two.kept {w w' : World} {B p q A S} (h : Two w B p q A S) (hk : ∀ k, A k → w'.heap[k]? = w.heap[k]?) : Two w' B p q A S := by
  obtain ⟨v1, v2, u1, u2, hp, hq, hd, hA⟩ := h
  exact ⟨v1, v2, u1, u2, hp.kept fun k h => hk k ((hA k).2 (.inl h)), hq.kept fun k h => hk k ((hA k).2 (.inr h)), hd, hA⟩
theorem Two.fr {w w' : World} {A' : Nat → Prop} {B p q A S} (h : Two w B p q A S) (hf : Fr A' w w') (hd : ∀ k, A k → ¬ A' k) : Two w' B p q A S := h.kept fun k hk => hf.block k (h.low k hk).2 (hd k hk)
theorem Two.below {w w' : World} {B p q A S} (h : Two w B p q A S) (hb : Below w.heap.size w w') : Two w' B p q A S := h.kept fun k hk => hb.block k (h.low k hk).2

/-- What an act leaves of both. -/
def TP (w : World) (B p q : Nat) (A : Nat → Prop) (S : DS) (w' : World) : Prop := ∃ A', Two w' B p q A' S ∧ Fr A w w' ∧ ∀ k, A' k → A k ∨ w.heap.size ≤ k

theorem TP.same {w w' : World} {B p q A S} (h : Two w B p q A S) (hb : Below w.heap.size w w') : TP w B p q A S w' := ⟨A, h.below hb, Fr.of_below hb, fun k hk => .inl hk⟩

/-- Behind the program's act the document's own disk is as it was. -/
theorem rd_after {w w1 : World} {B p q : Nat} {v1 v2 u1 u2 : Value} {S S' : DS} (hq : RD w B q u1 u2 S) (hd : ∀ k, foot p v1 v2 k → ¬ foot q u1 u2 k) (h : PP w B p v1 v2 S' w1) : RD w1 B q u1 u2 S := by
  obtain ⟨v1', v2', hp', hf, ht⟩ := h
  exact hq.fr hf fun k hk hk2 => hd k hk2 hk

theorem two_after {w w1 w2 : World} {B p q : Nat} {A : Nat → Prop} {v1 v2 u1 u2 : Value} {S S' : DS} (hq : RD w B q u1 u2 S) (hp : PD w B p v1 v2 S) (hd : ∀ k, foot p v1 v2 k → ¬ foot q u1 u2 k) (hA : ∀ k, A k ↔ foot p v1 v2 k ∨ foot q u1 u2 k)
    (h1 : PP w B p v1 v2 S' w1) (h2 : RP w1 B q u1 u2 S' w2) : TP w B p q A S' w2 := by
  obtain ⟨v1', v2', hp', hf, ht⟩ := h1
  obtain ⟨u1', u2', hq', hf2, ht2⟩ := h2
  have hd1 : ∀ k, foot p v1' v2' k → ¬ foot q u1 u2 k := fun k hk hk2 => by
    rcases ht k hk with h | h
    · exact hd k h hk2
    · have := (hq.foot_low k hk2).2; omega
  refine ⟨fun k => foot p v1' v2' k ∨ foot q u1' u2' k, ⟨v1', v2', u1', u2', hp'.fr hf2 hd1, hq', fun k hk hk2 => ?_, fun k => Iff.rfl⟩, ?_, ?_⟩
  · rcases ht2 k hk2 with h | h
    · exact hd1 k hk h
    · have := (hp'.foot_low k hk).2; omega
  · exact (hf.mono fun k hk => (hA k).2 (.inl hk)).trans hf2 fun k hk => .inl ((hA k).2 (.inr hk))
  · rintro k (hk | hk)
    · rcases ht k hk with h | h
      · exact .inl ((hA k).2 (.inl h))
      · exact .inr h
    · rcases ht2 k hk with h | h
      · exact .inl ((hA k).2 (.inr h))
      · have := hf.size; exact .inr (by omega)

theorem fr_cell {A : Nat → Prop} {w w' : World} (hf : Fr A w w') {b i : Nat} {u : Value} (hc : w.cell? ⟨b, i, none⟩ = some u) (hn : ¬ A b) : w'.cell? ⟨b, i, none⟩ = some u := by
  rw [World.cell?_of_block (w := w) (hf.block b (World.block_lt_of_cell? w _ hc) hn)]; exact hc

/-- An act: what is done, where, with which text, and what is kept. -/
structure AK where
  kind : Int
  at' : Int
  data : ByteArray
  ka : Option Addr
  kn : Nat
  kc : Nat
  K : List Bool

def AK.val (x : AK) : Value := .agg #[.int .i64 x.kind, .int .i64 x.at', .string x.data, .slice x.ka x.kn x.kc]

def DS.act (S : DS) (x : AK) : DS :=
  if x.kind.tmod 7 = 1 then (S.write x.at' x.data).2 else if x.kind.tmod 7 = 2 then S.flush.2 else if x.kind.tmod 7 = 3 then S.fuse x.at' else if x.kind.tmod 7 = 4 then S.crash x.K else if x.kind.tmod 7 = 5 then S.up.2 else S

theorem DS.ok.act {S : DS} {N : Nat} (h : S.ok N) (x : AK) (hx : x.at' ≤ 9223372036854775807) : (S.act x).ok (N + 1) := by
  unfold DS.act
  split
  · exact h.write _ _
  · split
    · exact h.flush
    · split
      · exact (h.fuse _ hx).mono (by omega)
      · split
        · exact (h.crash _).mono (by omega)
        · split
          · exact h.up.mono (by omega)
          · exact h.mono (by omega)

theorem pp_undrew {w w' : World} {B p : Nat} {v1 v2 : Value} {S : DS} (h : PP w.drew B p v1 v2 S w') : PP w B p v1 v2 S w' := by
  obtain ⟨a, b, c, d, e⟩ := h
  exact ⟨a, b, c, ⟨d.os, d.tape, d.output, d.size, d.block⟩, e⟩
theorem pp_fr {w w' : World} {B p : Nat} {v1 v2 : Value} {S : DS} (h : PP w B p v1 v2 S w') : Fr (foot p v1 v2) w w' := by
  obtain ⟨a, b, c, d, e⟩ := h
  exact d


end Go.Proofs.YtjohgagiccndpaaGreatDoor
/-
  Whether both disks are alike; whether acts are few.
-/
namespace Go.Proofs.YtjohgagiccndpaaGreatDoor
open Go.RowKit
set_option linter.unusedVariables false
set_option linter.unusedSimpArgs false

theorem has_of_lt {S : DS} {k : Nat} (h : k < S.L.length) : S.has (k : Int) := ⟨by omega, by omega⟩


/-- The slice value reads as acts, all below B. -/
structure Acts (w : World) (a : Option Addr) (n B : Nat) (X : Nat → AK) : Prop where
  big : n ≤ 9223372036854775807
  at0 : 0 < n → ∃ b off, a = some ⟨b, off, none⟩ ∧ b < B ∧ ∀ i, i < n → w.cell? ⟨b, off + i * 4, none⟩ = some (.int .i64 (X i).kind) ∧ w.cell? ⟨b, off + i * 4 + 1, none⟩ = some (.int .i64 (X i).at') ∧
    w.cell? ⟨b, off + i * 4 + 2, none⟩ = some (.string (X i).data) ∧ w.cell? ⟨b, off + i * 4 + 3, none⟩ = some (.slice (X i).ka (X i).kn (X i).kc)
  keep : ∀ i, i < n → Bl w (X i).ka (X i).kn (X i).K
  klow : ∀ i, i < n → ∀ b off, (X i).ka = some ⟨b, off, none⟩ → 0 < (X i).kn → b < B
  high : ∀ i, i < n → (X i).at' ≤ 9223372036854775807

theorem Acts.below {w w' : World} {a n B X} (h : Acts w a n B X) (hb : Below B w w') : Acts w' a n B X where
  big := h.big
  at0 := fun h0 => by
    obtain ⟨b, off, e, hl, hc⟩ := h.at0 h0
    refine ⟨b, off, e, hl, fun i hi => ?_⟩
    obtain ⟨c0, c1, c2, c3⟩ := hc i hi
    exact ⟨(hb.cell (by exact hl)).trans c0, (hb.cell (by exact hl)).trans c1, (hb.cell (by exact hl)).trans c2, (hb.cell (by exact hl)).trans c3⟩
  keep := fun i hi => (h.keep i hi).kept hb.size fun b off e h0 => hb.block b (h.klow i hi b off e h0)
  klow := h.klow
  high := h.high

/-- Whether acts are few, and their texts short. -/
def shortB (n : Nat) (X : Nat → AK) : Bool := decide (n ≤ 100 ∧ ∀ i, i < n → (X i).data.size ≤ 200)


end Go.Proofs.YtjohgagiccndpaaGreatDoor
/-
  The walks of DiskPlays and DiskApart.
-/
namespace Go.Proofs.YtjohgagiccndpaaGreatDoor
open Go.RowKit
set_option linter.unusedVariables false
set_option linter.unusedSimpArgs false

theorem RD.lowB {w B B' p v1 v2 S} (h : RD w B p v1 v2 S) (hl : B' ≤ B) : RD w B' p v1 v2 S := ⟨Dk.blk h, Nat.le_trans hl (Dk.low h), owns_low (Dk.own1 h) hl, owns_low (Dk.own2 h) hl⟩
theorem PD.lowB {w B B' p v1 v2 S} (h : PD w B p v1 v2 S) (hl : B' ≤ B) : PD w B' p v1 v2 S := by
  obtain ⟨fu, d, e⟩ := h
  exact ⟨fu, ⟨d.blk, Nat.le_trans hl d.low, owns_low d.own1 hl, owns_low d.own2 hl⟩, e⟩

theorem two_new {w1 w2 : World} {B p q : Nat} {v1 v2 u1 u2 : Value} {S : DS} (hp : PD w1 B p v1 v2 S) (hq : RD w2 w1.heap.size q u1 u2 S) (hb : Below w1.heap.size w1 w2) (hB : B ≤ w1.heap.size) : ∃ A, Two w2 B p q A S ∧ ∀ k, A k ↔ foot p v1 v2 k ∨ foot q u1 u2 k :=
  ⟨_, ⟨v1, v2, u1, u2, hp.below hb, hq.lowB hB, fun k h1 h2 => by
    have := (hp.foot_low k h1).2
    have := (hq.foot_low k h2).1
    omega, fun k => Iff.rfl⟩, fun k => Iff.rfl⟩

theorem TP.below {w w' w0 : World} {p q : Nat} {A : Nat → Prop} {S S' : DS} (h : TP w w0.heap.size p q A S' w') (h0 : Two w w0.heap.size p q A S) (hb : Below w0.heap.size w0 w) : Below w0.heap.size w0 w' := by
  obtain ⟨A', hT, hF, hl⟩ := h
  exact hb.trans (hF.below (fun k hk => (h0.low k hk).1) hb.size)


end Go.Proofs.YtjohgagiccndpaaGreatDoor
